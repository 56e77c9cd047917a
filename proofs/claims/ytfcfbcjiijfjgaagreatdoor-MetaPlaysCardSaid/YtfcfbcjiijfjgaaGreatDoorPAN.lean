import Derived.Test.YtfcfbcjiijfjgaaGreatDoorPAI
set_option maxHeartbeats 1000000
namespace Go.Proofs.YtfcfbcjiijfjgaaGreatDoor
open Go.RowKit
theorem byte_info:(Tryz.prog.info? 5).map (fun i=>(i.zero,i.size,i.bytes))=some (some (.int .u8 0),1,1):=by kernel_rfl
def Rowz (w:World) (B:Nat) (A:Option Addr) (ls:List (List UInt8)):Prop:=
 ∃vs:List Value,vs.length=ls.length∧Sees w B A vs∧∀i (h:i < ls.length),∃Ai ni ci,vs[i]?=some (.slice Ai ni ci)∧ls[i].length=ni∧ni≤140737488351232∧Sees w B Ai (byt ls[i])
section
variable {w w':World} {B B':Nat} {A:Option Addr} {ls:List (List UInt8)}
theorem Rowz.at_ {k:Nat} (h:Rowz w B A ls) (hk:k < ls.length):∃ad Ai ni ci,A=some ad∧ad.block < B∧w.cell? (ad.add k)=some (.slice Ai ni ci)∧ls[k].length=ni∧ni≤140737488351232∧Sees w B Ai (byt ls[k]):=by
 obtain⟨vs,hl,hs,hi⟩:=h
 obtain⟨Ai,ni,ci,h1,h2,h3,h4⟩:=hi k hk
 obtain⟨ad,e,hb,hc⟩:=hs.at_ (k:=k) (by omega)
 obtain⟨hk',e'⟩:=List.getElem?_eq_some_iff.1 h1
 exact⟨ad,Ai,ni,ci,e,hb,by rw [hc,e'],h2,h3,h4⟩
theorem Rowz.keep (h:Rowz w B A ls) (hk:∀p:Addr,p.block < B→w'.cell? p=w.cell? p):Rowz w' B A ls:=by
 obtain⟨vs,hl,hs,hi⟩:=h
 exact⟨vs,hl,hs.keep hk,fun i hil=>by
  obtain⟨Ai,ni,ci,h1,h2,h3,h4⟩:=hi i hil
  exact⟨Ai,ni,ci,h1,h2,h3,h4.keep hk⟩⟩
theorem Rowz.below (h:Rowz w B A ls) (hb:Below B w w'):Rowz w' B A ls:=h.keep fun _ hp=>hb.cell hp
theorem Rowz.more (h:Rowz w B A ls) (hB:B≤B'):Rowz w B' A ls:=by
 obtain⟨vs,hl,hs,hi⟩:=h
 exact⟨vs,hl,hs.more hB,fun i hil=>by
  obtain⟨Ai,ni,ci,h1,h2,h3,h4⟩:=hi i hil
  exact⟨Ai,ni,ci,h1,h2,h3,h4.more hB⟩⟩
end
def flat:List (List UInt8)→List UInt8
 | []=> []
 | l :: r=>l ++ flat r
theorem flat_snoc:∀(ls:List (List UInt8)) (l:List UInt8),flat (ls ++ [l])=flat ls ++ l
 | [],l=>by simp [flat]
 | x :: ls,l=>by simp [flat,flat_snoc ls l]
theorem flat_take {ls:List (List UInt8)} {k:Nat} (h:k < ls.length):flat (ls.take (k+1))=flat (ls.take k) ++ ls[k]:=by
 rw [List.take_succ_eq_append_getElem h,flat_snoc]
theorem flat_take_le (ls:List (List UInt8)) (k:Nat):(flat (ls.take k)).length≤(flat ls).length:=by
 induction ls generalizing k with
 | nil=>simp [flat]
 | cons x ls ih=>
  cases k with
  | zero=>simp [flat]
  | succ k=>simp only [List.take_succ_cons,flat,List.length_append];have:=ih k;omega
theorem flat_step {ls:List (List UInt8)} {k:Nat} (h:k < ls.length):(flat (ls.take k)).length+ls[k].length≤(flat ls).length:=by
 have:=flat_take_le ls (k+1)
 rw [flat_take h,List.length_append]at this
 exact this
theorem joined_any (ls:List (List UInt8)) (n c B:Nat) (A:Option Addr) (w:World) (hn:ls.length=n) (hm:n≤140737488351232) (hf:(flat ls).length≤140737488351232) (hr:Rowz w B A ls) (hB:B≤w.heap.size):
  Calls Tryz.prog 164 #[.slice A n c] w fun e w'=>∃v,e= .returned v∧w'.ownsRow w.heap.size 5 1 v (flat ls).length (byt (flat ls))∧Below w.heap.size w w':=by
 obtain⟨i0,hi,hz0,hz1,hz2⟩:=info_parts byte_info
 subst hn
 go_enter Tryz.func164,Tryz.ntmps164
 go_wp2
 go_loopw [3,8] (fun v i wr=>∃k:Nat,k≤ls.length∧i= .int .i64 k∧wr.ownsRow w.heap.size 5 1 v (flat (ls.take k)).length (byt (flat (ls.take k)))∧Rowz wr B A ls∧Below w.heap.size w wr) (fun _ i _=>ls.length - (_root_.Go.RowKit.intOf i).toNat)
 case atStart=>exact⟨0,Nat.zero_le _,rfl,World.ownsRow_nil _ _ _ _,hr,Br⟩
 case round=>
  obtain⟨k,hk,rfl,hown,hr,hb⟩:=hrel
  by_cases hlt:k < ls.length
  ·obtain⟨ad,Ai,ni,ci,rfl,hab,hc,hln,hni,hsi⟩:=hr.at_ hlt
   have hfs:=flat_step hlt
   have Hf:=Lh (flat_take hlt)
   have hs:=hb.size
   have hbl:(byt ls[k]).length=ni*1:=by rw [byt_length];omega
   go_wp2_with (at_builtin;go_must (refine wpList_append_sees rfl (.tmp 12) (.tmp 13) 172 rfl w.heap.size 5 i0 _ 1 1 Tryz.underlying172 hi hz0 hz1 hz2 rfl (by decide) _ _ _ rfl hown B Ai ni ci (byt ls[k]) rfl hbl hsi byt_one (by unfold maxLen;omega) (by omega) (by omega) ?_;intro v' w1 hown' hg1 _))
   go_roundw
   case rel=>
    have hb1:=hb.grown hg1 hs (fun k e=>(hown.lt k e).1)
    refine⟨k+1,by omega,by go_num,?_,hr.keep fun p hp=>World.cell?_of_block (hg1.block p.block (by omega) (fun e=>by have:=(hown.lt _ e.symm).1;omega)),hb1⟩
    rw [Hf.out,byt_append,List.length_append,hln]
    exact hown'
   case measure=>simp [_root_.Go.RowKit.intOf];omega
  ·have Ht:Hid (ls.take k=ls):=Lh (List.take_of_length_le (by omega))
   go_wp2
   go_ret
   rw [Ht.out]at hown
   exact⟨_,rfl,hown,hb⟩
end Go.Proofs.YtfcfbcjiijfjgaaGreatDoor
