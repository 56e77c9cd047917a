import Derived.Test.YtfcfbcjiijfjgaaGreatDoorPAG
set_option maxHeartbeats 2000000
set_option maxRecDepth 100000
namespace Go.Proofs.YtfcfbcjiijfjgaaGreatDoor.Me
open Go.RowKit Go.Shelf
attribute [local go_sem] Oper.semAt_some
theorem rgget_no (cs:List Value) (B:Bks) (s i:Int) (w:World) (hL:BL w cs B) (hE:ggetE B s i≠0):Calls Tryz.prog 25 #[bkV cs,.int .i64 s,.int .i64 i] w fun e w'=>e= .returned (.tuple #[gtV 0 0 0 0,.int .i64 (ggetE B s i)])∧Below w.heap.size w w':=by
 have hS:=Lh (fun V=>rslot_any s V)
 have HP:Hid (∀V,Below ((w.alloc (.cells cs.toArray 33)).alloc (.cells #[.int .i64 0,.int .i64 0,.int .i64 0,.int .i64 0] 43)).heap.size ((w.alloc (.cells cs.toArray 33)).alloc (.cells #[.int .i64 0,.int .i64 0,.int .i64 0,.int .i64 0] 43)) V→
   Row V w.heap.size 33 cs∧Row V (w.heap.size+1) 43 [.int .i64 0,.int .i64 0,.int .i64 0,.int .i64 0]∧Below w.heap.size w V):=Lh (fun V hV=>
  ⟨((Row.new w _ cs).below (below1 _ _)).below hV,(Row.new_at _ 43 [.int .i64 0,.int .i64 0,.int .i64 0,.int .i64 0] (by simp)).below hV,below0 (below2 w _ _) hV⟩)
 cases hs:isB s 4
 ·have h2:ggetE B s i=2:=by unfold ggetE gasks;rw [hs];simp
  rw [h2]
  rw [hs]at hS
  clear h2 hE hL hs
  go_enter Tryz.func25,Tryz.ntmps25
  go_wp2_with fail
  refine(hS.out _).mono ?_
  rintro e w1 ⟨rfl,rfl⟩
  obtain⟨p0,p1,pb⟩:=HP.out _ Br
  have hrf:Row ((w.alloc (.cells cs.toArray 33)).alloc (.cells #[Value.int .i64 0,.int .i64 0,.int .i64 0,.int .i64 0] 43)) (w.heap.size+1) 43 [Value.int .i64 0,.int .i64 0,.int .i64 0,.int .i64 0]:=Row.new_at _ _ _ (by simp)
  have HK:Hid (((w.alloc (.cells cs.toArray 33)).alloc (.cells #[Value.int .i64 0,.int .i64 0,.int .i64 0,.int .i64 0] 43)).cell? ⟨w.heap.size+1,0,none⟩=some (Value.int .i64 0)∧((w.alloc (.cells cs.toArray 33)).alloc (.cells #[Value.int .i64 0,.int .i64 0,.int .i64 0,.int .i64 0] 43)).cell? ⟨w.heap.size+1,1,none⟩=some (Value.int .i64 0)∧((w.alloc (.cells cs.toArray 33)).alloc (.cells #[Value.int .i64 0,.int .i64 0,.int .i64 0,.int .i64 0] 43)).cell? ⟨w.heap.size+1,2,none⟩=some (Value.int .i64 0)∧((w.alloc (.cells cs.toArray 33)).alloc (.cells #[Value.int .i64 0,.int .i64 0,.int .i64 0,.int .i64 0] 43)).cell? ⟨w.heap.size+1,3,none⟩=some (Value.int .i64 0)∧Below w.heap.size w ((w.alloc (.cells cs.toArray 33)).alloc (.cells #[Value.int .i64 0,.int .i64 0,.int .i64 0,.int .i64 0] 43))):=Lh ⟨hrf.cell 0,hrf.cell 1,hrf.cell 2,hrf.cell 3,below2 _ _ _⟩
  clear hrf p0 p1 pb
  go_wp2_with fail
  obtain⟨k0,k1,k2,k3,k4⟩:=HK.out
  exact bodyPost_ret (v:= .tuple #[.agg #[Value.int .i64 0,.int .i64 0,.int .i64 0,.int .i64 0],.int .i64 (2)]) (by simp [results,Tryz.results25,go_sem,k0,k1,k2,k3]) rfl ⟨rfl,k4⟩
 ·rw [hs]at hS
  by_cases h0:i < 0
  ·have h4:ggetE B s i=4:=by unfold ggetE gasks;rw [hs];simp [h0]
   rw [h4]
   have d0:decide (i < 0)=true:=decide_eq_true h0
   clear h4 hE hL hs
   go_enter Tryz.func25,Tryz.ntmps25
   go_wp2_with fail
   refine(hS.out _).mono ?_
   rintro e w1 ⟨rfl,rfl⟩
   obtain⟨p0,p1,pb⟩:=HP.out _ Br
   have hrf:Row ((w.alloc (.cells cs.toArray 33)).alloc (.cells #[Value.int .i64 0,.int .i64 0,.int .i64 0,.int .i64 0] 43)) (w.heap.size+1) 43 [Value.int .i64 0,.int .i64 0,.int .i64 0,.int .i64 0]:=Row.new_at _ _ _ (by simp)
   have HK:Hid (((w.alloc (.cells cs.toArray 33)).alloc (.cells #[Value.int .i64 0,.int .i64 0,.int .i64 0,.int .i64 0] 43)).cell? ⟨w.heap.size+1,0,none⟩=some (Value.int .i64 0)∧((w.alloc (.cells cs.toArray 33)).alloc (.cells #[Value.int .i64 0,.int .i64 0,.int .i64 0,.int .i64 0] 43)).cell? ⟨w.heap.size+1,1,none⟩=some (Value.int .i64 0)∧((w.alloc (.cells cs.toArray 33)).alloc (.cells #[Value.int .i64 0,.int .i64 0,.int .i64 0,.int .i64 0] 43)).cell? ⟨w.heap.size+1,2,none⟩=some (Value.int .i64 0)∧((w.alloc (.cells cs.toArray 33)).alloc (.cells #[Value.int .i64 0,.int .i64 0,.int .i64 0,.int .i64 0] 43)).cell? ⟨w.heap.size+1,3,none⟩=some (Value.int .i64 0)∧Below w.heap.size w ((w.alloc (.cells cs.toArray 33)).alloc (.cells #[Value.int .i64 0,.int .i64 0,.int .i64 0,.int .i64 0] 43))):=Lh ⟨hrf.cell 0,hrf.cell 1,hrf.cell 2,hrf.cell 3,below2 _ _ _⟩
   clear hrf p0 p1 pb
   go_wp2_with fail
   obtain⟨k0,k1,k2,k3,k4⟩:=HK.out
   exact bodyPost_ret (v:= .tuple #[.agg #[Value.int .i64 0,.int .i64 0,.int .i64 0,.int .i64 0],.int .i64 (4)]) (by simp [results,Tryz.results25,go_sem,k0,k1,k2,k3]) rfl ⟨rfl,k4⟩
  ·have d0:decide (i < 0)=false:=decide_eq_false h0
   by_cases h1:384≤i
   ·have h4:ggetE B s i=4:=by unfold ggetE gasks;rw [hs];simp [h1]
    rw [h4]
    have d1:decide (384≤i)=true:=decide_eq_true h1
    clear h4 hE hL hs
    go_enter Tryz.func25,Tryz.ntmps25
    go_wp2_with fail
    refine(hS.out _).mono ?_
    rintro e w1 ⟨rfl,rfl⟩
    obtain⟨p0,p1,pb⟩:=HP.out _ Br
    have hrf:Row ((w.alloc (.cells cs.toArray 33)).alloc (.cells #[Value.int .i64 0,.int .i64 0,.int .i64 0,.int .i64 0] 43)) (w.heap.size+1) 43 [Value.int .i64 0,.int .i64 0,.int .i64 0,.int .i64 0]:=Row.new_at _ _ _ (by simp)
    have HK:Hid (((w.alloc (.cells cs.toArray 33)).alloc (.cells #[Value.int .i64 0,.int .i64 0,.int .i64 0,.int .i64 0] 43)).cell? ⟨w.heap.size+1,0,none⟩=some (Value.int .i64 0)∧((w.alloc (.cells cs.toArray 33)).alloc (.cells #[Value.int .i64 0,.int .i64 0,.int .i64 0,.int .i64 0] 43)).cell? ⟨w.heap.size+1,1,none⟩=some (Value.int .i64 0)∧((w.alloc (.cells cs.toArray 33)).alloc (.cells #[Value.int .i64 0,.int .i64 0,.int .i64 0,.int .i64 0] 43)).cell? ⟨w.heap.size+1,2,none⟩=some (Value.int .i64 0)∧((w.alloc (.cells cs.toArray 33)).alloc (.cells #[Value.int .i64 0,.int .i64 0,.int .i64 0,.int .i64 0] 43)).cell? ⟨w.heap.size+1,3,none⟩=some (Value.int .i64 0)∧Below w.heap.size w ((w.alloc (.cells cs.toArray 33)).alloc (.cells #[Value.int .i64 0,.int .i64 0,.int .i64 0,.int .i64 0] 43))):=Lh ⟨hrf.cell 0,hrf.cell 1,hrf.cell 2,hrf.cell 3,below2 _ _ _⟩
    clear hrf p0 p1 pb
    go_wp2_with fail
    obtain⟨k0,k1,k2,k3,k4⟩:=HK.out
    exact bodyPost_ret (v:= .tuple #[.agg #[Value.int .i64 0,.int .i64 0,.int .i64 0,.int .i64 0],.int .i64 (4)]) (by simp [results,Tryz.results25,go_sem,k0,k1,k2,k3]) rfl ⟨rfl,k4⟩
   ·have d1:decide (384≤i)=false:=decide_eq_false h1
    obtain⟨s',rfl,hs4⟩:=isB_nat (b:=4) hs
    have hg:ggetE B (s':Int) i=openE B (s':Int):=by unfold ggetE gasks;rw [hs];simp [h0,h1]
    have hn:B s'=none:=by
     cases h:B s' with
     | none=>rfl
     | some f=>exact absurd (hg.trans (openE_some h)) hE
    have h5:ggetE B (s':Int) i=5:=by rw [hg];unfold openE;rw [Int.toNat_natCast,hn];rfl
    rw [h5]
    have hsh:=hL.shut s' hs4 hn
    have y0:(0:Int)≤(s':Int)∧(s':Int) < 4:=by omega
    obtain⟨y01,y02⟩:=y0
    clear hg h5 hE hL hs hn
    go_enter Tryz.func25,Tryz.ntmps25
    go_wp2_with fail
    refine(hS.out _).mono ?_
    rintro e w1 ⟨rfl,rfl⟩
    obtain⟨p0,p1,pb⟩:=HP.out _ Br
    have q1:((w.alloc (.cells cs.toArray 33)).alloc (.cells #[.int .i64 0,.int .i64 0,.int .i64 0,.int .i64 0] 43)).cell? ⟨w.heap.size,s'*10,none⟩=some (.bool false):=(p0.cell _).trans hsh
    have hrf:Row ((w.alloc (.cells cs.toArray 33)).alloc (.cells #[Value.int .i64 0,.int .i64 0,.int .i64 0,.int .i64 0] 43)) (w.heap.size+1) 43 [Value.int .i64 0,.int .i64 0,.int .i64 0,.int .i64 0]:=Row.new_at _ _ _ (by simp)
    have HK:Hid (((w.alloc (.cells cs.toArray 33)).alloc (.cells #[Value.int .i64 0,.int .i64 0,.int .i64 0,.int .i64 0] 43)).cell? ⟨w.heap.size+1,0,none⟩=some (Value.int .i64 0)∧((w.alloc (.cells cs.toArray 33)).alloc (.cells #[Value.int .i64 0,.int .i64 0,.int .i64 0,.int .i64 0] 43)).cell? ⟨w.heap.size+1,1,none⟩=some (Value.int .i64 0)∧((w.alloc (.cells cs.toArray 33)).alloc (.cells #[Value.int .i64 0,.int .i64 0,.int .i64 0,.int .i64 0] 43)).cell? ⟨w.heap.size+1,2,none⟩=some (Value.int .i64 0)∧((w.alloc (.cells cs.toArray 33)).alloc (.cells #[Value.int .i64 0,.int .i64 0,.int .i64 0,.int .i64 0] 43)).cell? ⟨w.heap.size+1,3,none⟩=some (Value.int .i64 0)∧Below w.heap.size w ((w.alloc (.cells cs.toArray 33)).alloc (.cells #[Value.int .i64 0,.int .i64 0,.int .i64 0,.int .i64 0] 43))):=Lh ⟨hrf.cell 0,hrf.cell 1,hrf.cell 2,hrf.cell 3,below2 _ _ _⟩
    clear hrf p0 p1 pb
    go_wp2_with fail
    obtain⟨k0,k1,k2,k3,k4⟩:=HK.out
    exact bodyPost_ret (v:= .tuple #[.agg #[Value.int .i64 0,.int .i64 0,.int .i64 0,.int .i64 0],.int .i64 (5)]) (by simp [results,Tryz.results25,go_sem,k0,k1,k2,k3]) rfl ⟨rfl,k4⟩
theorem rgget_yes (cs:List Value) (B:Bks) (f:Byts) (s i st pg sz fi:Nat) (w:World) (hL:BL w cs B) (hs4:s < 4) (hi:i < 384) (hf:B s=some f) (hr:greatAt f (greatO i)=some (st,pg,sz,fi)):Calls Tryz.prog 25 #[bkV cs,.int .i64 (s:Int),.int .i64 (i:Int)] w fun e w'=>e= .returned (.tuple #[gtV (st:Int) (pg:Int) (sz:Int) (fi:Int),.int .i64 0])∧Below w.heap.size w w':=by
 have hS:=Lh (fun V=>rslot_any (s:Int) V)
 have hs:isB (s:Int) 4=true:=isB_yes (n:=4) hs4
 rw [hs]at hS
 have HP:Hid (∀V,Below ((w.alloc (.cells cs.toArray 33)).alloc (.cells #[.int .i64 0,.int .i64 0,.int .i64 0,.int .i64 0] 43)).heap.size ((w.alloc (.cells cs.toArray 33)).alloc (.cells #[.int .i64 0,.int .i64 0,.int .i64 0,.int .i64 0] 43)) V→
   Row V w.heap.size 33 cs∧Row V (w.heap.size+1) 43 [.int .i64 0,.int .i64 0,.int .i64 0,.int .i64 0]∧Below w.heap.size w V):=Lh (fun V hV=>
  ⟨((Row.new w _ cs).below (below1 _ _)).below hV,(Row.new_at _ 43 [.int .i64 0,.int .i64 0,.int .i64 0,.int .i64 0] (by simp)).below hV,below0 (below2 w _ _) hV⟩)
 obtain⟨ho,_,⟨G,cap,hsl,hse⟩,_⟩:=hL.opn s hs4 f hf
 obtain⟨g0,g1,g2,g3⟩:=greL_get f i st pg sz fi hi hr
 have hne:greL f≠[]:=fun e=>by rw [e]at g0;simp at g0
 obtain⟨ad,rfl,hadb,hcell⟩:=hse hne
 have y0:(0:Int)≤(s:Int)∧(s:Int) < 4∧(0:Int)≤(i:Int)∧(i:Int) < 384∧¬384≤i:=by omega
 obtain⟨y01,y02,y05,y06,y07⟩:=y0
 have d0:decide ((i:Int) < 0)=false:=Df (by omega)
 have d1:decide ((384:Int)≤(i:Int))=false:=Df (by omega)
 obtain⟨p0,p1,pb⟩:=HP.out _ Br
 have hbc:∀o,(((w.alloc (.cells cs.toArray 33)).alloc (.cells #[.int .i64 0,.int .i64 0,.int .i64 0,.int .i64 0] 43))).cell? (ad.add o)=w.cell? (ad.add o):=fun o=>pb.cell (by rw [add_block];exact hadb)
 have q1:(((w.alloc (.cells cs.toArray 33)).alloc (.cells #[.int .i64 0,.int .i64 0,.int .i64 0,.int .i64 0] 43))).cell? ⟨w.heap.size,s*10,none⟩=some (.bool true):=(p0.cell _).trans ho
 have q2:(((w.alloc (.cells cs.toArray 33)).alloc (.cells #[.int .i64 0,.int .i64 0,.int .i64 0,.int .i64 0] 43))).cell? ⟨w.heap.size,s*10+9,none⟩=some (.slice (some ad) 384 cap):=(p0.cell _).trans hsl
 have e1:(⟨(ad.add (i*4)).block,(ad.add (i*4)).off+1,none⟩:Addr)=ad.add (i*4+1):=by rw [←add_assoc];exact(Addr.add_succ' _ 0).symm
 have e2:(⟨(ad.add (i*4)).block,(ad.add (i*4)).off+2,none⟩:Addr)=ad.add (i*4+2):=by rw [←add_assoc];exact(Addr.add_succ' _ 1).symm
 have e3:(⟨(ad.add (i*4)).block,(ad.add (i*4)).off+3,none⟩:Addr)=ad.add (i*4+3):=by rw [←add_assoc];exact(Addr.add_succ' _ 2).symm
 have r0:(((w.alloc (.cells cs.toArray 33)).alloc (.cells #[.int .i64 0,.int .i64 0,.int .i64 0,.int .i64 0] 43))).cell? (ad.add (i*4))=some (.int .i64 (st:Int)):=(hbc _).trans (hcell _ _ g0)
 have r1:(((w.alloc (.cells cs.toArray 33)).alloc (.cells #[.int .i64 0,.int .i64 0,.int .i64 0,.int .i64 0] 43))).cell? ⟨(ad.add (i*4)).block,(ad.add (i*4)).off+1,none⟩=some (.int .i64 (pg:Int)):=by rw [e1];exact(hbc _).trans (hcell _ _ g1)
 have r2:(((w.alloc (.cells cs.toArray 33)).alloc (.cells #[.int .i64 0,.int .i64 0,.int .i64 0,.int .i64 0] 43))).cell? ⟨(ad.add (i*4)).block,(ad.add (i*4)).off+2,none⟩=some (.int .i64 (sz:Int)):=by rw [e2];exact(hbc _).trans (hcell _ _ g2)
 have r3:(((w.alloc (.cells cs.toArray 33)).alloc (.cells #[.int .i64 0,.int .i64 0,.int .i64 0,.int .i64 0] 43))).cell? ⟨(ad.add (i*4)).block,(ad.add (i*4)).off+3,none⟩=some (.int .i64 (fi:Int)):=by rw [e3];exact(hbc _).trans (hcell _ _ g3)
 clear hL hse hne hcell g0 g1 g2 g3 hr e1 e2 e3 hbc hs
 go_enter Tryz.func25,Tryz.ntmps25
 go_wp2_with fail
 refine(hS.out _).mono ?_
 rintro e w1 ⟨rfl,rfl⟩
 have hrf:Row ((w.alloc (.cells cs.toArray 33)).alloc (.cells #[Value.int .i64 (st:Int),.int .i64 (pg:Int),.int .i64 (sz:Int),.int .i64 (fi:Int)] 43)) (w.heap.size+1) 43 [Value.int .i64 (st:Int),.int .i64 (pg:Int),.int .i64 (sz:Int),.int .i64 (fi:Int)]:=Row.new_at _ _ _ (by simp)
 have HK:Hid (((w.alloc (.cells cs.toArray 33)).alloc (.cells #[Value.int .i64 (st:Int),.int .i64 (pg:Int),.int .i64 (sz:Int),.int .i64 (fi:Int)] 43)).cell? ⟨w.heap.size+1,0,none⟩=some (Value.int .i64 (st:Int))∧((w.alloc (.cells cs.toArray 33)).alloc (.cells #[Value.int .i64 (st:Int),.int .i64 (pg:Int),.int .i64 (sz:Int),.int .i64 (fi:Int)] 43)).cell? ⟨w.heap.size+1,1,none⟩=some (Value.int .i64 (pg:Int))∧((w.alloc (.cells cs.toArray 33)).alloc (.cells #[Value.int .i64 (st:Int),.int .i64 (pg:Int),.int .i64 (sz:Int),.int .i64 (fi:Int)] 43)).cell? ⟨w.heap.size+1,2,none⟩=some (Value.int .i64 (sz:Int))∧((w.alloc (.cells cs.toArray 33)).alloc (.cells #[Value.int .i64 (st:Int),.int .i64 (pg:Int),.int .i64 (sz:Int),.int .i64 (fi:Int)] 43)).cell? ⟨w.heap.size+1,3,none⟩=some (Value.int .i64 (fi:Int))∧Below w.heap.size w ((w.alloc (.cells cs.toArray 33)).alloc (.cells #[Value.int .i64 (st:Int),.int .i64 (pg:Int),.int .i64 (sz:Int),.int .i64 (fi:Int)] 43))):=Lh ⟨hrf.cell 0,hrf.cell 1,hrf.cell 2,hrf.cell 3,below2 _ _ _⟩
 clear hrf p0 p1 pb
 go_wp2_with fail
 obtain⟨k0,k1,k2,k3,k4⟩:=HK.out
 exact bodyPost_ret (v:= .tuple #[.agg #[Value.int .i64 (st:Int),.int .i64 (pg:Int),.int .i64 (sz:Int),.int .i64 (fi:Int)],.int .i64 (0)]) (by simp [results,Tryz.results25,go_sem,k0,k1,k2,k3]) rfl ⟨rfl,k4⟩
theorem rrightg_any (st pg sz fi:Int) (w:World):Calls Tryz.prog 65 #[gtV st pg sz fi] w fun e w'=>e= .returned (.bool (decide (rightG st pg sz fi)))∧Below w.heap.size w w':=by
 have hS:=Lh (fun V=>rstate_any st V)
 have HB:=Lh (below1 w (.cells #[.int .i64 st,.int .i64 pg,.int .i64 sz,.int .i64 fi] 43))
 by_cases h0:0≤st∧st≤4
 ·rw [decide_eq_true h0]at hS
  by_cases h1:0≤sz
  ·have d1:decide (0≤sz)=true:=decide_eq_true h1
   by_cases h2:sz≤262144
   ·have d2:decide (sz≤262144)=true:=decide_eq_true h2
    by_cases h3:0≤pg
    ·have d3:decide (0≤pg)=true:=decide_eq_true h3
     by_cases h4:pg≤65535
     ·have d4:decide (pg≤65535)=true:=decide_eq_true h4
      by_cases h5:0≤fi
      ·have d5:decide (0≤fi)=true:=decide_eq_true h5
       by_cases h6:fi≤65535
       ·have d6:decide (fi≤65535)=true:=decide_eq_true h6
        rw [decide_eq_true (show rightG st pg sz fi from⟨h0.1,h0.2,h1,h2,h3,h4,h5,h6⟩)]
        go_enter Tryz.func65,Tryz.ntmps65
        go_wp2_with fail
        refine(hS.out _).mono ?_
        rintro e w1 ⟨rfl,rfl⟩
        go_wp2_with fail
        go_ret
        exact⟨rfl,HB.out⟩
       ·have d6:decide (fi≤65535)=false:=decide_eq_false h6
        rw [decide_eq_false (fun h:rightG st pg sz fi=>h6 h.2.2.2.2.2.2.2)]
        go_enter Tryz.func65,Tryz.ntmps65
        go_wp2_with fail
        refine(hS.out _).mono ?_
        rintro e w1 ⟨rfl,rfl⟩
        go_wp2_with fail
        go_ret
        exact⟨rfl,HB.out⟩
      ·have d5:decide (0≤fi)=false:=decide_eq_false h5
       rw [decide_eq_false (fun h:rightG st pg sz fi=>h5 h.2.2.2.2.2.2.1)]
       go_enter Tryz.func65,Tryz.ntmps65
       go_wp2_with fail
       refine(hS.out _).mono ?_
       rintro e w1 ⟨rfl,rfl⟩
       go_wp2_with fail
       go_ret
       exact⟨rfl,HB.out⟩
     ·have d4:decide (pg≤65535)=false:=decide_eq_false h4
      rw [decide_eq_false (fun h:rightG st pg sz fi=>h4 h.2.2.2.2.2.1)]
      go_enter Tryz.func65,Tryz.ntmps65
      go_wp2_with fail
      refine(hS.out _).mono ?_
      rintro e w1 ⟨rfl,rfl⟩
      go_wp2_with fail
      go_ret
      exact⟨rfl,HB.out⟩
    ·have d3:decide (0≤pg)=false:=decide_eq_false h3
     rw [decide_eq_false (fun h:rightG st pg sz fi=>h3 h.2.2.2.2.1)]
     go_enter Tryz.func65,Tryz.ntmps65
     go_wp2_with fail
     refine(hS.out _).mono ?_
     rintro e w1 ⟨rfl,rfl⟩
     go_wp2_with fail
     go_ret
     exact⟨rfl,HB.out⟩
   ·have d2:decide (sz≤262144)=false:=decide_eq_false h2
    rw [decide_eq_false (fun h:rightG st pg sz fi=>h2 h.2.2.2.1)]
    go_enter Tryz.func65,Tryz.ntmps65
    go_wp2_with fail
    refine(hS.out _).mono ?_
    rintro e w1 ⟨rfl,rfl⟩
    go_wp2_with fail
    go_ret
    exact⟨rfl,HB.out⟩
  ·have d1:decide (0≤sz)=false:=decide_eq_false h1
   rw [decide_eq_false (fun h:rightG st pg sz fi=>h1 h.2.2.1)]
   go_enter Tryz.func65,Tryz.ntmps65
   go_wp2_with fail
   refine(hS.out _).mono ?_
   rintro e w1 ⟨rfl,rfl⟩
   go_wp2_with fail
   go_ret
   exact⟨rfl,HB.out⟩
 ·rw [decide_eq_false h0]at hS
  rw [decide_eq_false (fun h:rightG st pg sz fi=>h0 ⟨h.1,h.2.1⟩)]
  go_enter Tryz.func65,Tryz.ntmps65
  go_wp2_with fail
  refine(hS.out _).mono ?_
  rintro e w1 ⟨rfl,rfl⟩
  go_wp2_with fail
  go_ret
  exact⟨rfl,HB.out⟩
theorem res_cell2 {fn:Func} {p u:Tmp} {ty:TypeId} (h:fn.results= #[.cell p ty,.tmp u]) {tmps:Array Value} {P:Program} {w:World} {a:Addr} (ha:tmps.getD p undef= .pointer (some a)) {v:Value} (hv:(loadVar ty a).run P w= .ok v w):
  (results fn tmps).run P w= .ok (.tuple #[v,tmps.getD u undef]) w:=by
 rw [results_cell_tmp h,ha]
 show((loadVar ty a).run P w).andThen _=_
 rw [hv]
 rfl
theorem row_range {W:World} {g:Nat} {t:TypeId} {cs:List Value} (h:Row W g t cs):W.rangeAt g 0 cs:=fun j v hj=>by
 rw [Nat.zero_add,h.cell]
 exact hj
theorem row_there {W:World} {g:Nat} {t:TypeId} {l:List Value} (h:Row W g t l) {n:Nat} (hn:n=l.length):W.there g 0 n:=fun j hj=>by
 rw [Nat.zero_add,h.cell,List.getElem?_eq_getElem (by omega)]
 exact⟨rfl,h.frozen j⟩
theorem bk_size:(Tryz.prog.info? 33).map (·.size)=some 40:=by kernel_rfl
theorem bk_load {W:World} {g:Nat} {cs:List Value} (h:Row W g 33 cs) (hl:cs.length=40):(loadVar 33 ⟨g,0,none⟩).run Tryz.prog W= .ok (bkV cs) W:=
 run_loadVar_mid _ g 0 _ cs _ (row_range h) Tryz.underlying33 rfl (by rw [hl];exact bk_size)
theorem set_from {w:World} {g:Nat} {t:TypeId}:∀(cs pre mid:List Value),Row w g t (pre ++ mid)→mid.length=cs.length→Row (w.setCells g pre.length cs) g t (pre ++ cs)
 | [],pre,mid,h,hl=>by
  obtain rfl:mid= []:=List.eq_nil_of_length_eq_zero hl
  exact h
 | v :: r,pre,m :: mid,h,hl=>by
  rw [World.setCells]
  have h1:=h.set pre.length v
  rw [List.set_append_right _ _ Lr,Nat.sub_self,List.set_cons_zero,show pre ++ v :: mid=(pre ++ [v]) ++ mid by simp]at h1
  have h2:=set_from r (pre ++ [v]) mid h1 (by simpa using hl)
  rw [List.length_append,List.length_singleton]at h2
  rw [show pre ++ v :: r=(pre ++ [v]) ++ r by simp]
  exact h2
theorem set_below (g B:Nat) (hB:B≤g) {w:World}:∀(cs:List Value) (o:Nat) (V:World),Below B w V→Below B w (V.setCells g o cs)
 | [],_,_,h=>h
 | v :: r,o,V,h=>by
  rw [World.setCells]
  exact set_below g B hB r (o+1) (V.setCell ⟨g,o,none⟩ v) (h.setCell hB v)
theorem bk_put {w W:World} {g:Nat} {l cs:List Value} (h:Row W g 33 l) (hb:Below w.heap.size w W) (hg:w.heap.size≤g) (hl:cs.length=40) (hl2:cs.length=40) (hl0:l.length=40:=by rfl):(loadVar 33 ⟨g,0,none⟩).run Tryz.prog (W.setCells g 0 cs.toArray.toList)= .ok (bkV cs) (W.setCells g 0 cs.toArray.toList)∧Below w.heap.size w (W.setCells g 0 cs.toArray.toList):=by
 have h1:=set_from cs [] l h (by omega)
 exact⟨bk_load h1 hl2,set_below g _ hg _ _ _ hb⟩
theorem rput_no (cs:List Value) (B:Bks) (s c i st sz:Int) (no:Nat) (w:World) (hL:BL w cs B) (hE:putE B s c i st sz≠0):Calls Tryz.prog 22 #[bkV cs,spV s c i,rcV st sz no] w fun e w'=>e= .returned (.tuple #[bkV cs,.int .i64 (putE B s c i st sz)])∧Below w.heap.size w w':=by
 have hA:=Lh (fun V=>rasks_any s c i V)
 have hR:=Lh (fun V=>rright_any st sz no V)
 obtain⟨w4,hw4⟩:=Nm ((((w.alloc (.cells cs.toArray 33)).alloc (.cells #[.int .i64 s,.int .i64 c,.int .i64 i] 37)).alloc (.cells #[.int .i64 st,.int .i64 sz,.int .u32 (no:Int)] 41)).alloc (.cells zba 33))
 have q0:Row w4 w.heap.size 33 cs:=by rw [hw4];exact(((Row.new w _ cs).below (below1 _ _)).below (below1 _ _)).below (below1 _ _)
 have q1:Row w4 (w.heap.size+1) 37 [.int .i64 s,.int .i64 c,.int .i64 i]:=by rw [hw4];exact((Row.new_at _ 37 [.int .i64 s,.int .i64 c,.int .i64 i] (by simp)).below (below1 _ _)).below (below1 _ _)
 have q2:Row w4 (w.heap.size+1+1) 41 [.int .i64 st,.int .i64 sz,.int .u32 (no:Int)]:=by rw [hw4];exact(Row.new_at _ 41 [.int .i64 st,.int .i64 sz,.int .u32 (no:Int)] (by simp)).below (below1 _ _)
 have q3:Row w4 (w.heap.size+1+1+1) 33 zbl:=by rw [hw4];exact Row.new_at _ 33 zbl (by simp)
 have qb:Below w.heap.size w w4:=by rw [hw4];exact(below3 w _ _ _).alloc (by simp;omega) _
 by_cases h2:asksS s c i=2
 ·have hp:putE B s c i st sz=2:=by unfold putE;rw [if_pos (.inl h2)]
  rw [hp]
  rw [h2]at hA
  clear hp hE h2
  go_enter Tryz.func22,Tryz.ntmps22
  go_wp2_with fail
  rw [←hw4]
  clear hw4
  have c10:w4.cell? ⟨w.heap.size+1,0,none⟩=some (.int .i64 s):=q1.cell 0
  have c11:w4.cell? ⟨w.heap.size+1,1,none⟩=some (.int .i64 c):=q1.cell 1
  have c12:w4.cell? ⟨w.heap.size+1,2,none⟩=some (.int .i64 i):=q1.cell 2
  go_wp2_with fail
  refine(hA.out _).mono ?_
  rintro e w5 ⟨rfl,hb⟩
  have p0:=q0.below hb
  have p1:=q1.below hb
  have p2:=q2.below hb
  have p3:=q3.below hb
  have pb:=below0 qb hb
  clear q0 q1 q2 q3 qb hb c10 c11 c12
  have c20:w5.cell? ⟨w.heap.size+1+1,0,none⟩=some (.int .i64 st):=p2.cell 0
  have c21:w5.cell? ⟨w.heap.size+1+1,1,none⟩=some (.int .i64 sz):=p2.cell 1
  have c22:w5.cell? ⟨w.heap.size+1+1,2,none⟩=some (.int .u32 (no:Int)):=p2.cell 2
  have HL:=Lh hL
  have hone:=Lh (all_oneCell_toArray hL.one)
  have hth:=Lh (row_there p3 (n:=cs.toArray.size) (by rw [List.size_toArray,hL.len];rfl))
  have hrg:=Lh (row_range p0)
  have hsz:=Lh (show(Tryz.prog.info? 33).map (·.size)=some cs.length by rw [hL.len];exact bk_size)
  have hsz2:=Lh (show(Tryz.prog.info? 33).map (·.size)=some cs.toArray.size by rw [List.size_toArray,hL.len];exact bk_size)
  have hlast:=Lh (bk_put p3 pb (by omega) hL.len hL.len)
  go_wp2_with (first | refine wpList_load_mid rfl 33 (.tmp 3) rfl w.heap.size 0 rfl cs _ hrg.out Tryz.underlying33 rfl hsz.out ?_ | refine wpList_store_mid rfl 33 (.tmp 6) (.tmp 19) rfl (w.heap.size+1+1+1) 0 cs.toArray rfl rfl hth.out hsz2.out hone.out ?_)
  exact bodyPost_ret (res_cell2 Tryz.results22 rfl hlast.out.1) rfl ⟨rfl,hlast.out.2⟩
 ·by_cases hr:rightR st sz
  ·rw [decide_eq_true hr]at hR
   have hp:putE B s c i st sz=getE B s c i:=by unfold putE;rw [if_neg (by rintro(h | h);exact h2 h;exact h hr)]
   rw [hp]at hE ⊢
   by_cases ha:asksS s c i=0
   ·obtain⟨s',c',i',rfl,rfl,rfl,hok⟩:=asks_zero ha
    have hg:getE B (s':Int) (c':Int) (i':Int)=openE B (s':Int):=by unfold getE;rw [if_neg (by rw [ha];simp)]
    have hn:B s'=none:=by
     cases h:B s' with
     | none=>rfl
     | some f=>exact absurd (hg.trans (openE_some h)) hE
    have h5:getE B (s':Int) (c':Int) (i':Int)=5:=by rw [hg];unfold openE;rw [Int.toNat_natCast,hn];rfl
    rw [h5]
    rw [ha]at hA
    have hsh:=hL.shut s' hok.1 hn
    have hs4:=hok.1
    have y0:(0:Int)≤(s':Int)∧(s':Int) < 4:=by omega
    obtain⟨y01,y02⟩:=y0
    clear hg h5 hE ha hok hn hp h2 hr
    go_enter Tryz.func22,Tryz.ntmps22
    go_wp2_with fail
    rw [←hw4]
    clear hw4
    have c10:w4.cell? ⟨w.heap.size+1,0,none⟩=some (.int .i64 (s':Int)):=q1.cell 0
    have c11:w4.cell? ⟨w.heap.size+1,1,none⟩=some (.int .i64 (c':Int)):=q1.cell 1
    have c12:w4.cell? ⟨w.heap.size+1,2,none⟩=some (.int .i64 (i':Int)):=q1.cell 2
    go_wp2_with fail
    refine(hA.out _).mono ?_
    rintro e w5 ⟨rfl,hb⟩
    have p0:=q0.below hb
    have p1:=q1.below hb
    have p2:=q2.below hb
    have p3:=q3.below hb
    have pb:=below0 qb hb
    clear q0 q1 q2 q3 qb hb c10 c11 c12
    have c20:w5.cell? ⟨w.heap.size+1+1,0,none⟩=some (.int .i64 st):=p2.cell 0
    have c21:w5.cell? ⟨w.heap.size+1+1,1,none⟩=some (.int .i64 sz):=p2.cell 1
    have c22:w5.cell? ⟨w.heap.size+1+1,2,none⟩=some (.int .u32 (no:Int)):=p2.cell 2
    have p0':=p0
    have p3':=p3
    have pb':=pb
    go_wp2_with fail
    refine(hR.out _).mono ?_
    rintro e w6 ⟨rfl,hb6⟩
    have HB6:=Lh hb6
    clear hb6 p0 p3 pb
    have hb6:=HB6.out
    have p0:=p0'.below hb6
    have p3:=p3'.below hb6
    have pb:=below0 pb' hb6
    have c30:w6.cell? ⟨w.heap.size+1,0,none⟩=some (.int .i64 (s':Int)):=(p1.below hb6).cell 0
    have c31:w6.cell? ⟨w.heap.size,s'*10,none⟩=some (.bool false):=(p0.cell _).trans hsh
    have HL:=Lh hL
    have hone:=Lh (all_oneCell_toArray hL.one)
    have hth:=Lh (row_there p3 (n:=cs.toArray.size) (by rw [List.size_toArray,hL.len];rfl))
    have hrg:=Lh (row_range p0)
    have hsz:=Lh (show(Tryz.prog.info? 33).map (·.size)=some cs.length by rw [hL.len];exact bk_size)
    have hsz2:=Lh (show(Tryz.prog.info? 33).map (·.size)=some cs.toArray.size by rw [List.size_toArray,hL.len];exact bk_size)
    have hlast:=Lh (bk_put p3 pb (by omega) hL.len hL.len)
    go_wp2_with (first | refine wpList_load_mid rfl 33 (.tmp 3) rfl w.heap.size 0 rfl cs _ hrg.out Tryz.underlying33 rfl hsz.out ?_ | refine wpList_store_mid rfl 33 (.tmp 6) (.tmp 30) rfl (w.heap.size+1+1+1) 0 cs.toArray rfl rfl hth.out hsz2.out hone.out ?_)
    exact bodyPost_ret (res_cell2 Tryz.results22 rfl hlast.out.1) rfl ⟨rfl,hlast.out.2⟩
   ·have hg:getE B s c i=asksS s c i:=by unfold getE;rw [if_pos ha]
    rw [hg]
    obtain⟨E,hEE⟩:=Nm (asksS s c i)
    rw [←hEE]at hA ha h2 ⊢
    have e0:(E == 0)=false:=beq_eq_false_iff_ne.2 ha
    have e2:(E == 2)=false:=beq_eq_false_iff_ne.2 h2
    clear hg hEE hE hp hr
    go_enter Tryz.func22,Tryz.ntmps22
    go_wp2_with fail
    rw [←hw4]
    clear hw4
    have c10:w4.cell? ⟨w.heap.size+1,0,none⟩=some (.int .i64 s):=q1.cell 0
    have c11:w4.cell? ⟨w.heap.size+1,1,none⟩=some (.int .i64 c):=q1.cell 1
    have c12:w4.cell? ⟨w.heap.size+1,2,none⟩=some (.int .i64 i):=q1.cell 2
    go_wp2_with fail
    refine(hA.out _).mono ?_
    rintro e w5 ⟨rfl,hb⟩
    have p0:=q0.below hb
    have p1:=q1.below hb
    have p2:=q2.below hb
    have p3:=q3.below hb
    have pb:=below0 qb hb
    clear q0 q1 q2 q3 qb hb c10 c11 c12
    have c20:w5.cell? ⟨w.heap.size+1+1,0,none⟩=some (.int .i64 st):=p2.cell 0
    have c21:w5.cell? ⟨w.heap.size+1+1,1,none⟩=some (.int .i64 sz):=p2.cell 1
    have c22:w5.cell? ⟨w.heap.size+1+1,2,none⟩=some (.int .u32 (no:Int)):=p2.cell 2
    have p0':=p0
    have p3':=p3
    have pb':=pb
    go_wp2_with fail
    refine(hR.out _).mono ?_
    rintro e w6 ⟨rfl,hb6⟩
    have HB6:=Lh hb6
    clear hb6 p0 p3 pb
    have hb6:=HB6.out
    have p0:=p0'.below hb6
    have p3:=p3'.below hb6
    have pb:=below0 pb' hb6
    have HL:=Lh hL
    have hone:=Lh (all_oneCell_toArray hL.one)
    have hth:=Lh (row_there p3 (n:=cs.toArray.size) (by rw [List.size_toArray,hL.len];rfl))
    have hrg:=Lh (row_range p0)
    have hsz:=Lh (show(Tryz.prog.info? 33).map (·.size)=some cs.length by rw [hL.len];exact bk_size)
    have hsz2:=Lh (show(Tryz.prog.info? 33).map (·.size)=some cs.toArray.size by rw [List.size_toArray,hL.len];exact bk_size)
    have hlast:=Lh (bk_put p3 pb (by omega) hL.len hL.len)
    go_wp2_with (first | refine wpList_load_mid rfl 33 (.tmp 3) rfl w.heap.size 0 rfl cs _ hrg.out Tryz.underlying33 rfl hsz.out ?_ | refine wpList_store_mid rfl 33 (.tmp 6) (.tmp 22) rfl (w.heap.size+1+1+1) 0 cs.toArray rfl rfl hth.out hsz2.out hone.out ?_)
    exact bodyPost_ret (res_cell2 Tryz.results22 rfl hlast.out.1) rfl ⟨rfl,hlast.out.2⟩
  ·rw [decide_eq_false hr]at hR
   have hp:putE B s c i st sz=2:=by unfold putE;rw [if_pos (.inr hr)]
   rw [hp]
   obtain⟨E,hEE⟩:=Nm (asksS s c i)
   rw [←hEE]at hA h2
   have e2:(E == 2)=false:=beq_eq_false_iff_ne.2 h2
   clear hEE hE hp hr
   go_enter Tryz.func22,Tryz.ntmps22
   go_wp2_with fail
   rw [←hw4]
   clear hw4
   have c10:w4.cell? ⟨w.heap.size+1,0,none⟩=some (.int .i64 s):=q1.cell 0
   have c11:w4.cell? ⟨w.heap.size+1,1,none⟩=some (.int .i64 c):=q1.cell 1
   have c12:w4.cell? ⟨w.heap.size+1,2,none⟩=some (.int .i64 i):=q1.cell 2
   go_wp2_with fail
   refine(hA.out _).mono ?_
   rintro e w5 ⟨rfl,hb⟩
   have p0:=q0.below hb
   have p1:=q1.below hb
   have p2:=q2.below hb
   have p3:=q3.below hb
   have pb:=below0 qb hb
   clear q0 q1 q2 q3 qb hb c10 c11 c12
   have c20:w5.cell? ⟨w.heap.size+1+1,0,none⟩=some (.int .i64 st):=p2.cell 0
   have c21:w5.cell? ⟨w.heap.size+1+1,1,none⟩=some (.int .i64 sz):=p2.cell 1
   have c22:w5.cell? ⟨w.heap.size+1+1,2,none⟩=some (.int .u32 (no:Int)):=p2.cell 2
   have p0':=p0
   have p3':=p3
   have pb':=pb
   go_wp2_with fail
   refine(hR.out _).mono ?_
   rintro e w6 ⟨rfl,hb6⟩
   have HB6:=Lh hb6
   clear hb6 p0 p3 pb
   have hb6:=HB6.out
   have p0:=p0'.below hb6
   have p3:=p3'.below hb6
   have pb:=below0 pb' hb6
   have HL:=Lh hL
   have hone:=Lh (all_oneCell_toArray hL.one)
   have hth:=Lh (row_there p3 (n:=cs.toArray.size) (by rw [List.size_toArray,hL.len];rfl))
   have hrg:=Lh (row_range p0)
   have hsz:=Lh (show(Tryz.prog.info? 33).map (·.size)=some cs.length by rw [hL.len];exact bk_size)
   have hsz2:=Lh (show(Tryz.prog.info? 33).map (·.size)=some cs.toArray.size by rw [List.size_toArray,hL.len];exact bk_size)
   have hlast:=Lh (bk_put p3 pb (by omega) hL.len hL.len)
   go_wp2_with (first | refine wpList_load_mid rfl 33 (.tmp 3) rfl w.heap.size 0 rfl cs _ hrg.out Tryz.underlying33 rfl hsz.out ?_ | refine wpList_store_mid rfl 33 (.tmp 6) (.tmp 19) rfl (w.heap.size+1+1+1) 0 cs.toArray rfl rfl hth.out hsz2.out hone.out ?_)
   exact bodyPost_ret (res_cell2 Tryz.results22 rfl hlast.out.1) rfl ⟨rfl,hlast.out.2⟩
theorem recL_len (f:Byts) (c:Nat):(recL f c).length=cnt c*3:=flat_len _ 3 (fun _=>recC_len _) _
theorem greL_len (f:Byts):(greL f).length=384*4:=flat_len _ 4 (fun _=>greC_len _) _
theorem recL_at (f:Byts) (c j r:Nat) (hj:j < cnt c) (hr:r < 3):(recL f c)[j*3+r]?=(recC (recAt f (recO c j)))[r]?:=flat_get (fun i=>recC (recAt f (recO c i))) 3 (fun _=>recC_len _) (cnt c) j r hj hr
theorem greL_at (f:Byts) (j r:Nat) (hj:j < 384) (hr:r < 4):(greL f)[j*4+r]?=(greC (greatAt f (greatO j)))[r]?:=flat_get (fun i=>greC (greatAt f (greatO i))) 4 (fun _=>greC_len _) 384 j r hj hr
theorem recL_put (f:Byts) (c i st sz no:Nat) (hc:c < 8) (hi:i < cnt c) (h1:st≤4) (h2:sz≤65535) (h3:no < 4294967296):
  recL (putB f (recO c i) (recB st sz no)) c=(((recL f c).set (i*3) (.int .i64 (st:Int))).set (i*3+1) (.int .i64 (sz:Int))).set (i*3+2) (.int .u32 (no:Int)):=by
 apply List.ext_getElem?
 intro p
 by_cases hp:p < cnt c*3
 ·obtain⟨j,r,hr,rfl⟩:∃j r,r < 3∧p=j*3+r:=⟨p / 3,p % 3,by omega,by omega⟩
  have hj:j < cnt c:=by omega
  rw [recL_at _ c j r hj hr]
  by_cases he:j=i
  ·subst he
   rw [rec_back _ _ _ _ _ h1 h2 h3]
   have hl:=recL_len f c
   rcases(show r=0∨r=1∨r=2 by omega) with rfl | rfl | rfl
   ·rw [List.getElem?_set_ne (by omega),List.getElem?_set_ne (by omega),Nat.add_zero,List.getElem?_set_self (by omega)]
    rfl
   ·rw [List.getElem?_set_ne (by omega),List.getElem?_set_self (by rw [List.length_set];omega)]
    rfl
   ·rw [List.getElem?_set_self (by rw [List.length_set,List.length_set];omega)]
    rfl
  ·rw [rec_out _ _ _ _ (by have:=rec_apart hc hj hc hi (fun h=>he h.2);rw [recB_len];omega),List.getElem?_set_ne (by omega),List.getElem?_set_ne (by omega),List.getElem?_set_ne (by omega),recL_at _ c j r hj hr]
 ·rw [List.getElem?_eq_none (by rw [recL_len];omega),List.getElem?_eq_none (by rw [List.length_set,List.length_set,List.length_set,recL_len];omega)]
theorem recL_other (f:Byts) (c i st sz no c':Nat) (hc:c < 8) (hi:i < cnt c) (hc':c' < 8) (h:c'≠c):recL (putB f (recO c i) (recB st sz no)) c'=recL f c':=by
 apply List.ext_getElem?
 intro p
 by_cases hp:p < cnt c'*3
 ·obtain⟨j,r,hr,rfl⟩:∃j r,r < 3∧p=j*3+r:=⟨p / 3,p % 3,by omega,by omega⟩
  have hj:j < cnt c':=by omega
  rw [recL_at _ c' j r hj hr,recL_at _ c' j r hj hr,rec_out _ _ _ _ (by have:=rec_apart hc' hj hc hi (fun x=>h x.1);rw [recB_len];omega)]
 ·rw [List.getElem?_eq_none (by rw [recL_len];omega),List.getElem?_eq_none (by rw [recL_len];omega)]
theorem greL_rec (f:Byts) (c i st sz no:Nat) (hc:c < 8) (hi:i < cnt c):greL (putB f (recO c i) (recB st sz no))=greL f:=by
 unfold greL
 congr 1
 funext j
 rw [great_out _ _ _ _ (.inr (by have:=rec_lt hc hi;rw [recB_len];unfold greatO;omega))]
theorem recL_gre (f:Byts) (c i st pg sz fi:Nat) (hc:c < 8):recL (putB f (greatO i) (greatB st pg sz fi)) c=recL f c:=by
 apply List.ext_getElem?
 intro p
 by_cases hp:p < cnt c*3
 ·obtain⟨j,r,hr,rfl⟩:∃j r,r < 3∧p=j*3+r:=⟨p / 3,p % 3,by omega,by omega⟩
  have hj:j < cnt c:=by omega
  rw [recL_at _ c j r hj hr,recL_at _ c j r hj hr,rec_out _ _ _ _ (.inl (by have:=rec_lt hc hj;unfold greatO;omega))]
 ·rw [List.getElem?_eq_none (by rw [recL_len];omega),List.getElem?_eq_none (by rw [recL_len];omega)]
theorem greL_put (f:Byts) (i st pg sz fi:Nat) (hi:i < 384) (h1:st≤4) (h2:pg≤65535) (h3:sz≤262144) (h4:fi≤65535):
  greL (putB f (greatO i) (greatB st pg sz fi))=((((greL f).set (i*4) (.int .i64 (st:Int))).set (i*4+1) (.int .i64 (pg:Int))).set (i*4+2) (.int .i64 (sz:Int))).set (i*4+3) (.int .i64 (fi:Int)):=by
 apply List.ext_getElem?
 intro p
 by_cases hp:p < 384*4
 ·obtain⟨j,r,hr,rfl⟩:∃j r,r < 4∧p=j*4+r:=⟨p / 4,p % 4,by omega,by omega⟩
  have hj:j < 384:=by omega
  rw [greL_at _ j r hj hr]
  by_cases he:j=i
  ·subst he
   rw [great_back _ _ _ _ _ _ h1 h2 h3 h4]
   have hl:=greL_len f
   rcases(show r=0∨r=1∨r=2∨r=3 by omega) with rfl | rfl | rfl | rfl
   ·rw [List.getElem?_set_ne (by omega),List.getElem?_set_ne (by omega),List.getElem?_set_ne (by omega),Nat.add_zero,List.getElem?_set_self (by omega)]
    rfl
   ·rw [List.getElem?_set_ne (by omega),List.getElem?_set_ne (by omega),List.getElem?_set_self (by rw [List.length_set];omega)]
    rfl
   ·rw [List.getElem?_set_ne (by omega),List.getElem?_set_self (by rw [List.length_set,List.length_set];omega)]
    rfl
   ·rw [List.getElem?_set_self (by rw [List.length_set,List.length_set,List.length_set];omega)]
    rfl
  ·rw [great_out _ _ _ _ (by rw [greatB_len];unfold greatO;omega),List.getElem?_set_ne (by omega),List.getElem?_set_ne (by omega),List.getElem?_set_ne (by omega),List.getElem?_set_ne (by omega),greL_at _ j r hj hr]
 ·rw [List.getElem?_eq_none (by rw [greL_len];omega),List.getElem?_eq_none (by rw [List.length_set,List.length_set,List.length_set,List.length_set,greL_len];omega)]
theorem Good.put {f:Byts} (h:Good f) (c i st sz no:Nat) (hc:c < 8) (hi:i < cnt c) (h1:st≤4) (h2:sz≤65535) (h3:no < 4294967296):Good (putB f (recO c i) (recB st sz no)):=by
 refine⟨fun c' i' hc' hi'=> ?_,fun j hj=> ?_⟩
 ·by_cases he:c'=c∧i'=i
  ·obtain⟨rfl,rfl⟩:=he
   exact⟨_,_,_,rec_back _ _ _ _ _ h1 h2 h3⟩
  ·rw [rec_out _ _ _ _ (by have:=rec_apart hc' hi' hc hi he;rw [recB_len];omega)]
   exact h.recs c' i' hc' hi'
 ·rw [great_out _ _ _ _ (.inr (by have:=rec_lt hc hi;rw [recB_len];unfold greatO;omega))]
  exact h.gres j hj
theorem Good.gput {f:Byts} (h:Good f) (i st pg sz fi:Nat) (hi:i < 384) (h1:st≤4) (h2:pg≤65535) (h3:sz≤262144) (h4:fi≤65535):Good (putB f (greatO i) (greatB st pg sz fi)):=by
 refine⟨fun c' i' hc' hi'=> ?_,fun j hj=> ?_⟩
 ·rw [rec_out _ _ _ _ (.inl (by have:=rec_lt hc' hi';unfold greatO;omega))]
  exact h.recs c' i' hc' hi'
 ·by_cases he:j=i
  ·subst he
   exact⟨_,_,_,_,great_back _ _ _ _ _ _ h1 h2 h3 h4⟩
  ·rw [great_out _ _ _ _ (by rw [greatB_len];unfold greatO;omega)]
   exact h.gres j hj
theorem Good.zero:Good zeroB:=⟨fun _ _ _ _=>⟨0,0,0,rec_zero _⟩,fun _ _=>⟨0,0,0,0,great_zero _⟩⟩
theorem BL.put {w w':World} {cs:List Value} {B:Bks} {s c i st sz no:Nat} {f:Byts} (h:BL w cs B) (hb:Below w.heap.size w w') (hs:s < 4) (hc:c < 8) (hi:i < cnt c) (hf:B s=some f) (h1:st≤4) (h2:sz≤65535) (h3:no < 4294967296) (A:Option Addr) (cap:Nat)
  (hA:Sees w' w'.heap.size A (recL (putB f (recO c i) (recB st sz no)) c)):BL w' (cs.set (s*10+1+c) (.slice A (cnt c) cap)) (upd B s (some (putB f (recO c i) (recB st sz no)))):=by
 have h':=h.below hb
 have hl:=h.len
 refine⟨by rw [List.length_set,h.len],fun u hu=> ?_,fun s' hs' hn=> ?_,fun s' hs' f' hf'=> ?_⟩
 ·rcases List.mem_or_eq_of_mem_set hu with hu | rfl
  ·exact h.one u hu
  ·rfl
 ·by_cases he:s'=s
  ·subst he
   rw [upd_same]at hn
   cases hn
  ·rw [upd_other _ _ _ _ he]at hn
   rw [List.getElem?_set_ne (by omega)]
   exact h.shut s' hs' hn
 ·by_cases he:s'=s
  ·subst he
   rw [upd_same]at hf'
   injection hf' with hf'
   subst hf'
   obtain⟨g1,g2,⟨G,cg,g3,g4⟩,g5⟩:=h'.opn s' hs' f hf
   refine⟨by rw [List.getElem?_set_ne (by omega)];exact g1,fun c' hc'=> ?_,⟨G,cg,by rw [List.getElem?_set_ne (by omega)];exact g3,by rw [greL_rec _ _ _ _ _ _ hc hi];exact g4⟩,g5.put c i st sz no hc hi h1 h2 h3⟩
   by_cases hcc:c'=c
   ·subst hcc
    exact⟨A,cap,by rw [List.getElem?_set_self (by omega)],hA⟩
   ·obtain⟨A',cap',e1,e2⟩:=g2 c' hc'
    exact⟨A',cap',by rw [List.getElem?_set_ne (by omega)];exact e1,by rw [recL_other _ _ _ _ _ _ _ hc hi hc' hcc];exact e2⟩
  ·rw [upd_other _ _ _ _ he]at hf'
   obtain⟨g1,g2,⟨G,cg,g3,g4⟩,g5⟩:=h'.opn s' hs' f' hf'
   refine⟨by rw [List.getElem?_set_ne (by omega)];exact g1,fun c' hc'=> ?_,⟨G,cg,by rw [List.getElem?_set_ne (by omega)];exact g3,g4⟩,g5⟩
   obtain⟨A',cap',e1,e2⟩:=g2 c' hc'
   exact⟨A',cap',by rw [List.getElem?_set_ne (by omega)];exact e1,e2⟩
theorem BL.gput {w w':World} {cs:List Value} {B:Bks} {s i st pg sz fi:Nat} {f:Byts} (h:BL w cs B) (hb:Below w.heap.size w w') (hs:s < 4) (hi:i < 384) (hf:B s=some f) (h1:st≤4) (h2:pg≤65535) (h3:sz≤262144) (h4:fi≤65535) (A:Option Addr) (cap:Nat)
  (hA:Sees w' w'.heap.size A (greL (putB f (greatO i) (greatB st pg sz fi)))):BL w' (cs.set (s*10+9) (.slice A 384 cap)) (upd B s (some (putB f (greatO i) (greatB st pg sz fi)))):=by
 have h':=h.below hb
 have hl:=h.len
 refine⟨by rw [List.length_set,h.len],fun u hu=> ?_,fun s' hs' hn=> ?_,fun s' hs' f' hf'=> ?_⟩
 ·rcases List.mem_or_eq_of_mem_set hu with hu | rfl
  ·exact h.one u hu
  ·rfl
 ·by_cases he:s'=s
  ·subst he
   rw [upd_same]at hn
   cases hn
  ·rw [upd_other _ _ _ _ he]at hn
   rw [List.getElem?_set_ne (by omega)]
   exact h.shut s' hs' hn
 ·by_cases he:s'=s
  ·subst he
   rw [upd_same]at hf'
   injection hf' with hf'
   subst hf'
   obtain⟨g1,g2,_,g5⟩:=h'.opn s' hs' f hf
   refine⟨by rw [List.getElem?_set_ne (by omega)];exact g1,fun c' hc'=> ?_,⟨A,cap,by rw [List.getElem?_set_self (by omega)],hA⟩,g5.gput i st pg sz fi hi h1 h2 h3 h4⟩
   obtain⟨A',cap',e1,e2⟩:=g2 c' hc'
   exact⟨A',cap',by rw [List.getElem?_set_ne (by omega)];exact e1,by rw [recL_gre _ _ _ _ _ _ _ hc'];exact e2⟩
  ·rw [upd_other _ _ _ _ he]at hf'
   obtain⟨g1,g2,⟨G,cg,g3,g4⟩,g5⟩:=h'.opn s' hs' f' hf'
   refine⟨by rw [List.getElem?_set_ne (by omega)];exact g1,fun c' hc'=> ?_,⟨G,cg,by rw [List.getElem?_set_ne (by omega)];exact g3,g4⟩,g5⟩
   obtain⟨A',cap',e1,e2⟩:=g2 c' hc'
   exact⟨A',cap',by rw [List.getElem?_set_ne (by omega)];exact e1,e2⟩
def NewL (w w':World) (cs cs':List Value):Prop:=∀(j:Nat) (A:Addr) (n c:Nat),cs'[j]?=some (Value.slice (some A) n c)→cs[j]?=some (Value.slice (some A) n c)∨(w.heap.size≤A.block∧A.block < w'.heap.size)
theorem NewL.set {w w':World} {cs:List Value} (k a n c:Nat) (h:w.heap.size≤a) (h':a < w'.heap.size):NewL w w' cs (cs.set k (.slice (some ⟨a,0,none⟩) n c)):=by
 intro j A n' c' hj
 by_cases he:k=j
 ·subst he
  by_cases hl:k < cs.length
  ·rw [List.getElem?_set_self hl]at hj
   injection hj with hj
   injection hj with hj
   injection hj with hj
   subst hj
   exact .inr ⟨h,h'⟩
  ·rw [List.getElem?_eq_none (by rw [List.length_set];omega)]at hj
   cases hj
 ·rw [List.getElem?_set_ne he]at hj
  exact .inl hj
theorem NewL.refl (w w':World) (cs:List Value):NewL w w' cs cs:=fun _ _ _ _ h=> .inl h
end Go.Proofs.YtfcfbcjiijfjgaaGreatDoor.Me
