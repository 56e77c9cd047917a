import Derived.Test.YtfcfbcjiijfjgaaGreatDoorPBH
import Derived.Laws.Concat
import Derived.LaidLaws
import Derived.ChangeArms
import Derived.Test.YtfcfbcjiijfjgaaGreatDoorPAV
set_option maxHeartbeats 4000000
set_option maxRecDepth 100000
namespace Go.Proofs.YtfcfbcjiijfjgaaGreatDoor.Sh
open Go.RowKit Go.Shelf
attribute [local go_sem] Oper.semAt_some
theorem run_add_str {P:Program} (a b:List UInt8) (h:a.length+b.length≤9223372036854775807) (w:World):(Op.stringOp .add (str a) (str b)).run P w= .ok (.string (str (a ++ b))) w:=by
 rw [run_string_add_sum w _ _ (by simpa [str,ByteArray.size] using h)]
 simp [str,ByteArray.mk_append_mk]
theorem letter_slice {x:Int} (h:0≤x∧x≤4) (w:World):(Instr.slice 9 (.string ⟨#[102,107,108,104,103]⟩) (some (.int .i64 x)) (some (.int .i64 (x+1))) none).run Tryz.prog w= .ok (.string (str [letter x])) w:=by
 rw [run_slice_string w 9 _ .i64 .i64 _ _ Tryz.underlying9 (by omega) (by omega) (by show x+1≤5;omega)]
 obtain rfl | rfl | rfl | rfl | rfl:x=0∨x=1∨x=2∨x=3∨x=4:=by omega
 all_goals rfl
theorem rtext_any (l:Ls) (A:Option Addr) (n c:Nat) (w:World) (hl:l.length=n) (hn:n≤256) (hst:Sts l) (hs:Sees w w.heap.size A (izs l)):
  Calls Tryz.prog 68 #[.slice A n c] w fun e w'=>e= .returned (.string (str (text l)))∧Below w.heap.size w w':=by
 have HS:=Lh (fun i (hi:i < l.length)=>(show ∃ad,A=some ad∧w.cell? (ad.add i)=some (.int .i64 l[i]) from by
  obtain⟨ad,e,_,hc⟩:=sees_int hs hi
  exact⟨ad,e,hc⟩))
 have HX:=Lh (fun i (hi:i < l.length)=>hst l[i] (List.getElem_mem hi))
 have HL:=Lh hl
 clear hs hl hst
 go_enter Tryz.func68,Tryz.ntmps68
 go_wp2_with fail
 go_loopw [3,4] (fun s3 s4 wr=>∃(i:Nat) (S1:ByteArray),s4= .int .i64 (i:Int)∧i≤n∧s3= .string S1∧Hid (S1=str (text (l.take i)))∧∃q,wr=w.drewN q) (fun _ s4 _=>n - (_root_.Go.RowKit.intOf s4).toNat)
 case atStart=>exact⟨0,_,rfl,Nat.zero_le _,rfl,Lh rfl,0,rfl⟩
 case round=>
  obtain⟨i,S1,rfl,hin,rfl,HS1,q,rfl⟩:=hrel
  by_cases hlt:i < n
  ·have hil:i < l.length:=by rw [HL.out];exact hlt
   have j0:(0:Int)≤(i:Int):=by omega
   have j1:(i:Int) < (n:Int):=by omega
   have i2:decide ((i:Int) < (n:Int))=true:=decide_eq_true j1
   have i3:decide (i < n)=true:=decide_eq_true hlt
   obtain⟨ad,rfl,hc⟩:=HS.out i hil
   have hx:=HX.out i hil
   have hsl:=letter_slice hx
   have hcat:∀W:World,(Op.stringOp .add S1 (str [letter l[i]])).run Tryz.prog W= .ok (.string (str (text (l.take (i+1))))) W:=fun W=>by
    rw [HS1.out,run_add_str _ _ (by rw [text_len,List.length_take];simp;omega)]
    rw [List.take_add_one,text_app,List.getElem?_eq_getElem hil]
    rfl
   have ew:IntKind.i64.wrap (l[i]+1)=l[i]+1:=wrapI _ (by omega) (by omega)
   obtain⟨x,hxx⟩:=Nm (l[i])
   rw [←hxx]at hc hx hsl hcat ew
   obtain⟨y,hy⟩:=Nm (x+1)
   rw [←hy]at hsl ew
   have ew':IntKind.i64.wrap (x+1)=y:=by rw [hy]at ew ⊢;exact ew
   obtain⟨S2,hS2⟩:=Nm (str [letter x])
   obtain⟨S3,hS3⟩:=Nm (str (text (l.take (i+1))))
   rw [←hS2]at hsl hcat
   rw [←hS3]at hcat
   have HS3:=Lh hS3
   clear hxx hy hS2 hS3 HS1 ew hx
   go_wp2_with fail
   go_quiet (fail)
   go_wp2_with fail
   go_roundw
   case rel=>exact⟨i+1,S3,by go_num,by omega,rfl,HS3,_,rfl⟩
   case measure=>simp [_root_.Go.RowKit.intOf];omega
  ·obtain rfl:i=n:=by omega
   have i2:decide ((i:Int) < (i:Int))=false:=Df (by omega)
   have HF:=Lh (show S1=str (text l) by rw [HS1.out,List.take_of_length_le (by rw [HL.out];exact Nat.le_refl _)])
   clear HS1
   go_wp2_with fail
   go_ret
   exact⟨by rw [HF.out];rfl,below_drewN Br q⟩
theorem unletter_st {b:UInt8} {z:Int} (h:unletter b=some z):0≤z∧z≤4∧letter z=b:=by
 unfold unletter at h
 split at h
 ·cases h;rename_i e;subst e;decide
 split at h
 ·cases h;rename_i e;subst e;decide
 split at h
 ·cases h;rename_i e;subst e;decide
 split at h
 ·cases h;rename_i e;subst e;decide
 split at h
 ·cases h;rename_i e;subst e;decide
 ·cases h
theorem untext_none {b:UInt8} (hb:unletter b=none):∀{l:List UInt8},b∈l→untext l=none
 | x :: r,h=>by
  rcases List.mem_cons.1 h with rfl | h
  ·simp [untext,hb]
  ·simp only [untext,untext_none hb h]
   cases unletter x <;> rfl
theorem untext_snoc {b:UInt8} {z:Int} (hb:unletter b=some z):∀{l:List UInt8} {o:Ls},untext l=some o→untext (l ++ [b])=some (o ++ [z])
 | [],o,h=>by
  cases h
  simp [untext,hb]
 | x :: r,o,h=>by
  unfold untext at h
  cases hx:unletter x with
  | none=>rw [hx]at h;cases h
  | some y=>
   cases hr:untext r with
   | none=>rw [hx,hr]at h;cases h
   | some s=>
    rw [hx,hr]at h
    cases h
    show(match unletter x,untext (r ++ [b]) with
     | some z,some l=>some (z :: l)
     | _,_=>none)=_
    rw [hx,untext_snoc hb hr]
    rfl
theorem untext_text:∀{o:Ls},Sts o→untext (text o)=some o
 | [],_=>rfl
 | z :: r,h=>by
  have hz:=h z (by simp)
  have h1:unletter (letter z)=some z:=by
   obtain rfl | rfl | rfl | rfl | rfl:z=0∨z=1∨z=2∨z=3∨z=4:=by omega
   all_goals rfl
  show(match unletter (letter z),untext (text r) with
   | some z,some l=>some (z :: l)
   | _,_=>none)=_
  rw [h1,untext_text (fun y hy=>h y (by simp [hy]))]
def i64 (z:Int):Prop:= -9223372036854775808≤z∧z≤9223372036854775807
abbrev HasT:=World→Value→Ls→(Nat→Prop)→Prop
def Ap (v:Value) (l:Ls) (F:Nat→Prop):Prop:=l≠[]→∀g,v.ownBlock=some g→¬F g
theorem Wi.keep {w w':World} {v:Value} {l:Ls} {F:Nat→Prop} (h:Wi w v l) (ha:Ap v l F) (hk:Keep F w w'):Wi w' v l:=by
 obtain⟨A,c,rfl,hc,h⟩:=h
 refine⟨A,c,rfl,hc,fun hn=> ?_⟩
 obtain⟨g,rest,rfl,hr⟩:=h hn
 exact⟨g,rest,rfl,hr.same (hk.block g hr.lt (ha hn g rfl))⟩
theorem Wi.lt {w:World} {v:Value} {l:Ls} (h:Wi w v l) (hn:l≠[]):∀g,v.ownBlock=some g→g < w.heap.size:=by
 obtain⟨A,c,rfl,hc,h⟩:=h
 obtain⟨g,rest,rfl,hr⟩:=h hn
 intro k hk
 cases hk
 exact hr.lt
structure Ac where
 copy:Bool
 at_:Int
 to:Int
def Ac.cells (x:Ac):List Value:= [.bool x.copy,.int .i64 x.at_,.int .i64 x.to]
def Ac.fits (x:Ac):Prop:=i64 x.at_∧i64 x.to
end Go.Proofs.YtfcfbcjiijfjgaaGreatDoor.Sh
namespace Go.Proofs.YtfcfbcjiijfjgaaGreatDoor.Me
open Go.RowKit Go.Shelf
attribute [local go_sem] Oper.semAt_some
theorem stAt_byte {f:Byts} {c i:Nat} (h:(recAt f (recO c i)).isSome=true):stAt f c i≤4∧stAt f c i=(f (recO c i)).toNat:=by
 unfold stAt
 unfold recAt at h ⊢
 split at h
 ·rename_i h1
  rw [if_pos h1]
  exact⟨by simp_all,rfl⟩
 ·cases h
theorem insM_izs (l:List Nat):insM l=Sh.izs (l.map fun n:Nat=>(n:Int)):=by
 simp [insM,Sh.izs]
theorem letter_get {n:Nat} (h:n≤4):Sh.letter (n:Int)=([102,107,108,104,103]:List UInt8).getD n 0:=by
 obtain rfl | rfl | rfl | rfl | rfl:n=0∨n=1∨n=2∨n=3∨n=4:=by omega
 all_goals rfl
theorem text_txt (f:Byts) (c:Nat) (h:∀i,i < cnt c→(recAt f (recO c i)).isSome=true):Sh.text ((stsL f c).map fun n:Nat=>(n:Int))=txtC f c:=by
 unfold Sh.text stsL txtC
 rw [List.map_map,List.map_map]
 refine List.map_congr_left fun i hi=> ?_
 obtain⟨h1,h2⟩:=stAt_byte (h i (List.mem_range.1 hi))
 show Sh.letter (stAt f c i:Int)=_
 rw [letter_get h1,h2]
theorem rtxt_any (f:Byts) (c:Nat) (hc:c < 8) (A:Option Addr) (cp:Nat) (w:World) (hs:Sees w w.heap.size A (insM (stsL f c))) (h:∀i,i < cnt c→(recAt f (recO c i)).isSome=true):
  Calls Tryz.prog 68 #[.slice A (cnt c) cp] w fun e w'=>e= .returned (.string (str (txtC f c)))∧Below w.heap.size w w':=by
 rw [insM_izs]at hs
 have hcl:=cnt_le hc
 have ht:=Sh.rtext_any _ A (cnt c) cp w (by rw [List.length_map,stsL_len]) (by omega) (fun z hz=>by
  obtain⟨n,hn,rfl⟩:=List.mem_map.1 hz
  unfold stsL at hn
  obtain⟨i,hi,rfl⟩:=List.mem_map.1 hn
  have:=(stAt_byte (h i (List.mem_range.1 hi))).1
  omega) hs
 rw [text_txt f c h]at ht
 exact ht
structure NApi (T:World→Prop):Prop where
 tb:∀{w w'},T w→Below w.heap.size w w'→T w'
 get:∀(w:World),T w→Calls Tryz.prog 14 #[.pointer none,spV 0 0 0] w fun e w'=>e= .returned (.tuple #[rcV 0 0 0,.int .i64 1])∧Below w.heap.size w w'
 gget:∀(w:World),T w→Calls Tryz.prog 15 #[.pointer none,.int .i64 0,.int .i64 0] w fun e w'=>e= .returned (.tuple #[gtV 0 0 0 0,.int .i64 1])∧Below w.heap.size w w'
 states:∀(w:World),T w→Calls Tryz.prog 16 #[.pointer none,.int .i64 0,.int .i64 0] w fun e w'=>e= .returned (.tuple #[.pointer none,.int .i64 1])∧Below w.heap.size w w'
 openN:∀(w:World),T w→Calls Tryz.prog 17 #[.pointer none,.int .i64 0,.int .i64 0] w fun e w'=>e= .returned (.int .i64 1)∧Below w.heap.size w w'
 closeN:∀(w:World),T w→Calls Tryz.prog 18 #[.pointer none,.int .i64 0] w fun e w'=>e= .returned (.int .i64 1)∧Below w.heap.size w w'
 put:∀(w:World),T w→Calls Tryz.prog 11 #[.pointer none,spV 0 0 0,rcV 0 0 0] w fun e w'=>e= .returned (.int .i64 1)∧Below w.heap.size w w'
 gput:∀(w:World),T w→Calls Tryz.prog 19 #[.pointer none,.int .i64 0,.int .i64 0,gtV 0 0 0 0] w fun e w'=>e= .returned (.int .i64 1)∧Below w.heap.size w w'
theorem none_any {T:World→Prop} (H:NApi T) (w:World) (hT:T w):Calls Tryz.prog 6 #[] w fun e w'=>e= .returned (.bool true)∧Below w.heap.size w w':=by
 have hB:Below w.heap.size w w:=Br
 have HTB:=Lh (fun w w' (h:T w) hb=>H.tb (w:=w) (w':=w') h hb)
 have H1:=Lh H.get
 have H2:=Lh H.gget
 have H3:=Lh H.states
 have H4:=Lh H.openN
 have H5:=Lh H.closeN
 have H6:=Lh H.put
 have H7:=Lh H.gput
 clear H
 go_enter Tryz.func6,Tryz.ntmps6
 go_wp2_with fail
 refine(H1.out _ hT).mono ?_
 rintro e v1 ⟨rfl,hb1⟩
 have hT':=HTB.out _ _ hT hb1
 have hB':=below0 hB hb1
 clear hT hB hb1
 have hT:=hT'
 have hB:=hB'
 clear hT' hB'
 have hT':=HTB.out _ _ hT (below1 v1 (.cells #[.int .i64 0,.int .i64 0,.int .u32 0] 41))
 have hB':=below0 hB (below1 v1 (.cells #[.int .i64 0,.int .i64 0,.int .u32 0] 41))
 clear hT hB
 have hT:=hT'
 have hB:=hB'
 clear hT' hB'
 go_wp2_with fail
 refine(H2.out _ hT).mono ?_
 rintro e v2 ⟨rfl,hb1⟩
 have hT':=HTB.out _ _ hT hb1
 have hB':=below0 hB hb1
 clear hT hB hb1
 have hT:=hT'
 have hB:=hB'
 clear hT' hB'
 have hT':=HTB.out _ _ hT (below1 v2 (.cells #[.int .i64 0,.int .i64 0,.int .i64 0,.int .i64 0] 43))
 have hB':=below0 hB (below1 v2 (.cells #[.int .i64 0,.int .i64 0,.int .i64 0,.int .i64 0] 43))
 clear hT hB
 have hT:=hT'
 have hB:=hB'
 clear hT' hB'
 go_wp2_with fail
 refine(H3.out _ hT).mono ?_
 rintro e v3 ⟨rfl,hb1⟩
 have hT':=HTB.out _ _ hT hb1
 have hB':=below0 hB hb1
 clear hT hB hb1
 have hT:=hT'
 have hB:=hB'
 clear hT' hB'
 go_wp2_with fail
 refine(num_any 1 _).mono ?_
 rintro e wn ⟨rfl,rfl⟩
 go_wp2_with fail
 refine(num_any 1 _).mono ?_
 rintro e wn ⟨rfl,rfl⟩
 go_wp2_with fail
 refine(num_any 1 _).mono ?_
 rintro e wn ⟨rfl,rfl⟩
 go_wp2_with fail
 refine(H4.out _ hT).mono ?_
 rintro e v4 ⟨rfl,hb1⟩
 have hT':=HTB.out _ _ hT hb1
 have hB':=below0 hB hb1
 clear hT hB hb1
 have hT:=hT'
 have hB:=hB'
 clear hT' hB'
 go_wp2_with fail
 refine(num_any 1 _).mono ?_
 rintro e wn ⟨rfl,rfl⟩
 go_wp2_with fail
 refine(H5.out _ hT).mono ?_
 rintro e v5 ⟨rfl,hb1⟩
 have hT':=HTB.out _ _ hT hb1
 have hB':=below0 hB hb1
 clear hT hB hb1
 have hT:=hT'
 have hB:=hB'
 clear hT' hB'
 go_wp2_with fail
 refine(num_any 1 _).mono ?_
 rintro e wn ⟨rfl,rfl⟩
 go_wp2_with fail
 refine(H6.out _ hT).mono ?_
 rintro e v6 ⟨rfl,hb1⟩
 have hT':=HTB.out _ _ hT hb1
 have hB':=below0 hB hb1
 clear hT hB hb1
 have hT:=hT'
 have hB:=hB'
 clear hT' hB'
 go_wp2_with fail
 refine(num_any 1 _).mono ?_
 rintro e wn ⟨rfl,rfl⟩
 go_wp2_with fail
 refine(H7.out _ hT).mono ?_
 rintro e v7 ⟨rfl,hb1⟩
 have hT':=HTB.out _ _ hT hb1
 have hB':=below0 hB hb1
 clear hT hB hb1
 have hT:=hT'
 have hB:=hB'
 clear hT' hB'
 go_wp2_with fail
 refine(num_any 1 _).mono ?_
 rintro e wn ⟨rfl,rfl⟩
 go_wp2_with fail
 go_ret
 exact⟨rfl,hB⟩
def Apart (w:World) (cs:List Value) (F:Nat→Prop):Prop:=∀(j:Nat) (A:Addr) (n c:Nat),cs[j]?=some (Value.slice (some A) n c)→A.block < w.heap.size∧¬F A.block
theorem Sees.keep15 {F:Nat→Prop} {w w':World} {A:Option Addr} {l:List Value} (h:Sees w w.heap.size A l) (ha:∀a,A=some a→¬F a.block) (hk:Keep F w w'):Sees w' w'.heap.size A l:=fun hne=>by
 obtain⟨a,rfl,hlt,hc⟩:=h hne
 refine⟨a,rfl,Nat.lt_of_lt_of_le hlt hk.size,fun j u hu=> ?_⟩
 rw [hk.cell (by rw [add_block];exact hlt) (by rw [add_block];exact ha a rfl)]
 exact hc j u hu
theorem BL.keep {F:Nat→Prop} {w w':World} {cs:List Value} {B:Bks} (h:BL w cs B) (ha:Apart w cs F) (hk:Keep F w w'):BL w' cs B:=
 ⟨h.len,h.one,h.shut,fun s hs f hf=>by
  obtain⟨h1,h2,⟨G,cap,h3,h4⟩,h5⟩:=h.opn s hs f hf
  refine⟨h1,fun c hc=> ?_,⟨G,cap,h3,Sees.keep15 h4 (fun a e=>by subst e;exact(ha _ _ _ _ h3).2) hk⟩,h5⟩
  obtain⟨A,cap,g1,g2⟩:=h2 c hc
  exact⟨A,cap,g1,Sees.keep15 g2 (fun a e=>by subst e;exact(ha _ _ _ _ g1).2) hk⟩⟩
theorem Apart.next {F F':Nat→Prop} {w w':World} {cs:List Value} (h:Apart w cs F) (hF:∀k,F' k→F k∨w.heap.size≤k) (hs:w.heap.size≤w'.heap.size):Apart w' cs F':=fun j A n c hj=>by
 obtain⟨h1,h2⟩:=h j A n c hj
 refine⟨by omega,fun hf=> ?_⟩
 rcases hF _ hf with h3 | h3
 ·exact h2 h3
 ·omega
theorem Apart.new {F:Nat→Prop} {w w':World} {cs cs':List Value} (h:Apart w cs F) (hF:∀k,F k→k < w.heap.size) (hn:NewL w w' cs cs') (hs:w.heap.size≤w'.heap.size):Apart w' cs' F:=fun j A n c hj=>by
 rcases hn j A n c hj with h1 | ⟨h1,h2⟩
 ·obtain⟨h3,h4⟩:=h j A n c h1
  exact⟨by omega,h4⟩
 ·exact⟨h2,fun hf=>by have:=hF _ hf;omega⟩
section
variable {T:World→Prop} {Has:HasT} (H:MApi T Has)
structure Ps (Has:HasT) (W0:World) (v:Value) (B:Bks) (n:Nat) (cs:List Value) (B2:Bks) (L:List Rw) (V:World):Prop where
 has:∃F,Has V v B n F∧(∀k,F k→W0.heap.size≤k)∧Apart V cs F∧∀x∈L,Row V x.1 x.2.1 x.2.2∧¬F x.1
 bl:BL V cs B2
 low:Below W0.heap.size W0 V
variable {W0 V V':World} {v:Value} {B B' B2 B3:Bks} {n n':Nat} {cs cs':List Value} {L:List Rw}
theorem Ps.row (h:Ps Has W0 v B n cs B2 L V) (k:Nat) (x:Rw) (hx:L[k]?=some x):Row V x.1 x.2.1 x.2.2:=by
 obtain⟨F,_,_,_,h3⟩:=h.has
 exact(h3 x (List.mem_of_getElem? hx)).1
theorem Ps.tail {x:Rw} (h:Ps Has W0 v B n cs B2 (x :: L) V):Ps Has W0 v B n cs B2 L V:=by
 obtain⟨F,h1,h2,h0,h3⟩:=h.has
 exact⟨⟨F,h1,h2,h0,fun y hy=>h3 y (List.mem_cons_of_mem _ hy)⟩,h.bl,h.low⟩
include H
theorem Ps.t (h:Ps Has W0 v B n cs B2 L V) (ht:T W0):T V:=H.tb ht h.low
theorem Ps.ptr (h:Ps Has W0 v B n cs B2 L V):∃ad,v= .pointer (some ad):=by
 obtain⟨F,h1,_⟩:=h.has
 exact H.ptr h1
theorem Ps.below (h:Ps Has W0 v B n cs B2 L V) (hb:Below V.heap.size V V'):Ps Has W0 v B n cs B2 L V':=by
 obtain⟨F,h1,h2,h0,h3⟩:=h.has
 exact⟨⟨F,H.keep h1 (fun k hk=>hb.block _ (H.lt h1 k hk)),h2,h0.next (fun k hk=> .inl hk) hb.size,fun x hx=>⟨(h3 x hx).1.below hb,(h3 x hx).2⟩⟩,h.bl.below hb,below0 h.low hb⟩
theorem Ps.put (h:Ps Has W0 v B n cs B2 L V) (hb:Below V.heap.size V V') (hn:NewL V V' cs cs') (hbl:BL V' cs' B3):Ps Has W0 v B n cs' B3 L V':=by
 obtain⟨F,h1,h2,h0,h3⟩:=h.has
 exact⟨⟨F,H.keep h1 (fun k hk=>hb.block _ (H.lt h1 k hk)),h2,h0.new (H.lt h1) hn hb.size,fun x hx=>⟨(h3 x hx).1.below hb,(h3 x hx).2⟩⟩,hbl,below0 h.low hb⟩
theorem Ps.alloc (h:Ps Has W0 v B n cs B2 L V) (t:TypeId) (l:List Value):Ps Has W0 v B n cs B2 ((V.heap.size,t,l) :: L) (V.alloc (.cells l.toArray t)):=by
 obtain⟨F,h1,h2,h0,h3⟩:=h.has
 refine⟨⟨F,H.keep h1 (fun k hk=>Below.heap_alloc _ _ _ (H.lt h1 k hk)),h2,h0.next (fun k hk=> .inl hk) (below1 V _).size,fun x hx=> ?_⟩,h.bl.below (below1 _ _),below0 h.low (below1 _ _)⟩
 rcases List.mem_cons.1 hx with rfl | hx
 ·exact⟨Row.new V t l,fun hf=>by have:=H.lt h1 _ hf;simp only at this;omega⟩
 ·exact⟨(h3 x hx).1.below (below1 _ _),(h3 x hx).2⟩
omit H in
theorem Ps.call (h:Ps Has W0 v B n cs B2 L V) {f:Nat} {args:Array Value} {P:Ending→Prop} (hc:∀F,Has V v B n F→Calls Tryz.prog f args V fun e V'=>P e∧Nx Has V v B' n' F V'):Calls Tryz.prog f args V fun e V'=>P e∧Ps Has W0 v B' n' cs B2 L V':=by
 obtain⟨F,h1,h2,h0,h3⟩:=h.has
 refine(hc F h1).mono fun e V' ⟨e1,F',g1,g2,g3⟩=>⟨e1,⟨F',g1,fun k hk=> ?_,h0.next g3 g2.size,fun x hx=>⟨g2.row (h3 x hx).1 (h3 x hx).2,fun hf=> ?_⟩⟩,h.bl.keep h0 g2,h.low.trans (g2.below (fun k hk=>h2 k hk) h.low.size)⟩
 ·rcases g3 k hk with h | h'
  ·exact h2 k h
  ·exact Nat.le_trans h.low.size h'
 ·rcases g3 _ hf with h' | h'
  ·exact(h3 x hx).2 h'
  ·have:=(h3 x hx).1.lt
   omega
theorem Ps.pure (h:Ps Has W0 v B n cs B2 L V) {f:Nat} {args:Array Value} {P:Ending→Prop} (hc:Calls Tryz.prog f args V fun e V'=>P e∧Below V.heap.size V V'):Calls Tryz.prog f args V fun e V'=>P e∧Ps Has W0 v B n cs B2 L V':=
 hc.mono fun _ _ ⟨e1,e2⟩=>⟨e1,h.below H e2⟩
end
def putAt:List Value→Nat→List Value→List Value
 | l,_,[]=>l
 | l,o,v :: r=>putAt (l.set o v) (o+1) r
theorem putAt_len:∀(vs l:List Value) (o:Nat),(putAt l o vs).length=l.length
 | [],_,_=>rfl
 | v :: r,l,o=>by rw [putAt,putAt_len r,List.length_set]
theorem Row.setCells15 {g:Nat} {t:TypeId}:∀(vs l:List Value) (o:Nat) (w:World),Row w g t l→Row (w.setCells g o vs) g t (putAt l o vs)
 | [],_,_,_,h=>h
 | v :: r,l,o,w,h=>by
  rw [World.setCells,putAt]
  exact Row.setCells15 r _ (o+1) _ (h.set o v)
theorem putAt_out:∀(vs l:List Value) (o j:Nat),(j < o∨o+vs.length≤j)→(putAt l o vs)[j]?=l[j]?
 | [],_,_,_,_=>rfl
 | v :: r,l,o,j,h=>by
  rw [putAt,putAt_out r _ (o+1) j (by rw [List.length_cons]at h;omega),List.getElem?_set_ne (by rw [List.length_cons]at h;omega)]
theorem putAt_in:∀(vs l:List Value) (o j:Nat),j < vs.length→o+vs.length≤l.length→(putAt l o vs)[o+j]?=vs[j]?
 | v :: r,l,o,0,_,hl=>by
  rw [List.length_cons]at hl
  rw [putAt,putAt_out r _ (o+1) (o+0) (by omega),show o+0=o from rfl,List.getElem?_set_self (by omega)]
  rfl
 | v :: r,l,o,j+1,h,hl=>by
  rw [List.length_cons]at h hl
  rw [putAt,show o+(j+1)=(o+1)+j by omega,putAt_in r _ (o+1) j (by omega) (by rw [List.length_set];omega)]
  rfl
theorem putAt_mem:∀(vs l:List Value) (o:Nat) (x:Value),x∈putAt l o vs→x∈l∨x∈vs
 | [],_,_,_,h=> .inl h
 | v :: r,l,o,x,h=>by
  rcases putAt_mem r _ _ x h with h | h
  ·rcases List.mem_or_eq_of_mem_set h with h | rfl
   ·exact .inl h
   ·exact .inr (List.mem_cons_self ..)
  ·exact .inr (List.mem_cons_of_mem _ h)
theorem BL.putAt {w w':World} {cs bs:List Value} {B:Bks} {s:Nat} {o:Option Byts} (h:BL w cs B) (hb:Below w.heap.size w w') (hs:s < 4) (hl:bs.length=10) (hone:∀u∈bs,u.oneCell'=true)
  (hn:o=none→bs[0]?=some (.bool false)) (hf:∀f,o=some f→bs[0]?=some (.bool true)∧(∀c,c < 8→∃A cap,bs[1+c]?=some (.slice A (cnt c) cap)∧Sees w' w'.heap.size A (recL f c))∧(∃G cap,bs[9]?=some (.slice G 384 cap)∧Sees w' w'.heap.size G (greL f))∧Good f):
  BL w' (Me.putAt cs (s*10) bs) (upd B s o):=by
 have h':=h.below hb
 have hc:=h.len
 have hin:∀j,j < 10→(Me.putAt cs (s*10) bs)[s*10+j]?=bs[j]?:=fun j hj=>putAt_in bs cs (s*10) j (by omega) (by omega)
 have hout:∀s' j,s' < 4→s'≠s→j < 10→(Me.putAt cs (s*10) bs)[s'*10+j]?=cs[s'*10+j]?:=fun s' j _ _ _=>putAt_out bs cs (s*10) _ (by omega)
 refine⟨by rw [putAt_len,hc],fun u hu=> ?_,fun s' hs' hn'=> ?_,fun s' hs' f' hf'=> ?_⟩
 ·rcases putAt_mem _ _ _ _ hu with hu | hu
  ·exact h.one u hu
  ·exact hone u hu
 ·by_cases he:s'=s
  ·subst he
   rw [upd_same]at hn'
   have:=hin 0 (by omega)
   rw [Nat.add_zero]at this
   rw [this]
   exact hn hn'
  ·rw [upd_other _ _ _ _ he]at hn'
   have:=hout s' 0 hs' he (by omega)
   rw [Nat.add_zero]at this
   rw [this]
   exact h.shut s' hs' hn'
 ·by_cases he:s'=s
  ·subst he
   rw [upd_same]at hf'
   obtain⟨g1,g2,⟨G,cap,g3,g4⟩,g5⟩:=hf f' hf'
   refine⟨?_,fun c hc8=> ?_,⟨G,cap,by rw [hin 9 (by omega)];exact g3,g4⟩,g5⟩
   ·have:=hin 0 (by omega)
    rw [Nat.add_zero]at this
    rw [this]
    exact g1
   ·obtain⟨A,cp,e1,e2⟩:=g2 c hc8
    exact⟨A,cp,by rw [Nat.add_assoc,hin (1+c) (by omega)];exact e1,e2⟩
  ·rw [upd_other _ _ _ _ he]at hf'
   obtain⟨g1,g2,⟨G,cap,g3,g4⟩,g5⟩:=h'.opn s' hs' f' hf'
   refine⟨?_,fun c hc8=> ?_,⟨G,cap,by rw [hout s' 9 hs' he (by omega)];exact g3,g4⟩,g5⟩
   ·have:=hout s' 0 hs' he (by omega)
    rw [Nat.add_zero]at this
    rw [this]
    exact g1
   ·obtain⟨A,cp,e1,e2⟩:=g2 c hc8
    exact⟨A,cp,by rw [Nat.add_assoc,hout s' (1+c) hs' he (by omega),←Nat.add_assoc];exact e1,e2⟩
abbrev noBook:List Value:= [Value.bool false,.slice none 0 0,.slice none 0 0,.slice none 0 0,.slice none 0 0,.slice none 0 0,.slice none 0 0,.slice none 0 0,.slice none 0 0,.slice none 0 0]
theorem BL.empty {w w':World} {cs:List Value} {B:Bks} {s:Nat} (h:BL w cs B) (hb:Below w.heap.size w w') (hs:s < 4):BL w' (Me.putAt cs (s*10) noBook) (upd B s none):=
 h.putAt hb hs rfl (by intro u hu;simp only [noBook,List.mem_cons,List.not_mem_nil,or_false]at hu;rcases hu with rfl | rfl | rfl | rfl | rfl | rfl | rfl | rfl | rfl | rfl <;> rfl) (fun _=>rfl) (fun _ e=>by cases e)
theorem BL.fresh {w w':World} {cs bs:List Value} {B:Bks} {s b:Nat} (h:BL w cs B) (hb:Below w.heap.size w w') (hs:s < 4) (hf:Fr b w' bs 8) (hg:∃G cap,bs[9]?=some (.slice G 384 cap)∧Sees w' w'.heap.size G (greL zeroB)):BL w' (Me.putAt cs (s*10) bs) (upd B s (some zeroB)):=
 h.putAt hb hs hf.len hf.one (fun e=>by cases e) (fun f e=>by
  injection e with e
  subst e
  refine⟨hf.opn,fun c hc=> ?_,hg,Good.zero⟩
  obtain⟨a,cap,g1,g2⟩:=hf.recs c hc
  exact⟨_,cap,g1,g2.sees⟩)
theorem NewL.putAt {w w':World} {cs bs:List Value} {o:Nat} (hbs:∀(j:Nat) (A:Addr) (n c:Nat),bs[j]?=some (Value.slice (some A) n c)→w.heap.size≤A.block∧A.block < w'.heap.size) (hl:o+bs.length≤cs.length):NewL w w' cs (Me.putAt cs o bs):=fun j A n c hj=>by
 by_cases h:j < o∨o+bs.length≤j
 ·rw [putAt_out _ _ _ _ h]at hj
  exact .inl hj
 ·obtain⟨k,rfl⟩:∃k,j=o+k:=⟨j - o,by omega⟩
  rw [putAt_in _ _ _ _ (by omega) hl]at hj
  exact .inr (hbs k A n c hj)
section
variable {T:World→Prop} {Has:HasT} (H:MApi T Has)
variable {W0 V V':World} {v:Value} {B B2:Bks} {n:Nat} {cs:List Value} {L:List Rw}
include H
theorem lst_no (h:Ps Has W0 v B n cs B L V) (hT:T W0) (s c:Int) (hE:statesE B s c≠0):Calls Tryz.prog 26 #[v,bkV cs,.int .i64 s,.int .i64 c] V fun e V'=>e= .returned (.bool true)∧Ps Has W0 v B n cs B L V':=by
 have h1:=h.alloc H 33 cs
 have HS:=Lh (h1.call (fun F hF=>H.statesNo s c (h1.t H hT) hF hE))
 have hsl:=Lh (fun w=>rslot_any s w)
 have hcl:=Lh (fun w=>rclass_any c w)
 have hsh:=Lh h.bl.shut
 clear h h1 hT H
 cases hs:isB s 4
 ·have h2:statesE B s c=2:=by unfold statesE;rw [hs];simp
  rw [h2]at HS
  rw [hs]at hsl
  clear h2 hs hE hsh
  go_enter Tryz.func26,Tryz.ntmps26
  go_wp2_with fail
  refine(HS.out).mono ?_
  rintro e w1 ⟨rfl,HP⟩
  have hr:=HP.row 0 _ rfl
  have HP':=Lh HP
  clear HP
  clear hr
  go_wp2_with fail
  refine(hsl.out _).mono ?_
  rintro e wn ⟨rfl,rfl⟩
  go_wp2_with fail
  refine(num_any _ _).mono ?_
  rintro e wn ⟨rfl,rfl⟩
  go_wp2_with fail
  go_ret
  exact⟨rfl,HP'.out.tail⟩
 ·rw [hs]at hsl
  cases hc:isB c 8
  ·have h2:statesE B s c=2:=by unfold statesE;rw [hs,hc];simp
   rw [h2]at HS
   rw [hc]at hcl
   clear h2 hs hc hE hsh
   go_enter Tryz.func26,Tryz.ntmps26
   go_wp2_with fail
   refine(HS.out).mono ?_
   rintro e w1 ⟨rfl,HP⟩
   have hr:=HP.row 0 _ rfl
   have HP':=Lh HP
   clear HP
   clear hr
   go_wp2_with fail
   refine(hsl.out _).mono ?_
   rintro e wn ⟨rfl,rfl⟩
   go_wp2_with fail
   refine(hcl.out _).mono ?_
   rintro e wn ⟨rfl,rfl⟩
   go_wp2_with fail
   refine(num_any _ _).mono ?_
   rintro e wn ⟨rfl,rfl⟩
   go_wp2_with fail
   go_ret
   exact⟨rfl,HP'.out.tail⟩
  ·rw [hc]at hcl
   obtain⟨s',rfl,hs4⟩:=isB_nat (b:=4) hs
   have hg:statesE B (s':Int) c=openE B (s':Int):=by unfold statesE;rw [hs,hc];simp
   have hn:B s'=none:=by
    cases h:B s' with
    | none=>rfl
    | some f=>exact absurd (hg.trans (openE_some h)) hE
   have h5:statesE B (s':Int) c=5:=by rw [hg];unfold openE;rw [Int.toNat_natCast,hn];rfl
   rw [h5]at HS
   have hsh1:=hsh.out s' hs4 hn
   have y0:(0:Int)≤(s':Int)∧(s':Int) < 4:=by omega
   obtain⟨y01,y02⟩:=y0
   clear h5 hs hc hE hg hn hsh
   go_enter Tryz.func26,Tryz.ntmps26
   go_wp2_with fail
   refine(HS.out).mono ?_
   rintro e w1 ⟨rfl,HP⟩
   have hr:=HP.row 0 _ rfl
   have HP':=Lh HP
   clear HP
   have c31:w1.cell? ⟨V.heap.size,s'*10,none⟩=some (.bool false):=(hr.cell _).trans hsh1
   clear hr
   go_wp2_with fail
   refine(hsl.out _).mono ?_
   rintro e wn ⟨rfl,rfl⟩
   go_wp2_with fail
   refine(hcl.out _).mono ?_
   rintro e wn ⟨rfl,rfl⟩
   go_wp2_with fail
   refine(num_any _ _).mono ?_
   rintro e wn ⟨rfl,rfl⟩
   go_wp2_with fail
   go_ret
   exact⟨rfl,HP'.out.tail⟩
end
section
variable {T:World→Prop} {Has:HasT} (H:MApi T Has)
variable {W0 V V':World} {v:Value} {B B' B2:Bks} {n n':Nat} {cs:List Value} {L:List Rw}
theorem Ps.nx {F:Nat→Prop} (hbl:BL V cs B2) (hlow:Below W0.heap.size W0 V) (h2:∀k,F k→W0.heap.size≤k) (h0:Apart V cs F) (h3:∀x∈L,Row V x.1 x.2.1 x.2.2∧¬F x.1) (hn:Nx Has V v B' n' F V'):Ps Has W0 v B' n' cs B2 L V':=by
 obtain⟨F',g1,g2,g3⟩:=hn
 refine⟨⟨F',g1,fun k hk=> ?_,h0.next g3 g2.size,fun x hx=>⟨g2.row (h3 x hx).1 (h3 x hx).2,fun hf=> ?_⟩⟩,hbl.keep h0 g2,hlow.trans (g2.below (fun k hk=>h2 k hk) hlow.size)⟩
 ·rcases g3 k hk with h | h'
  ·exact h2 k h
  ·exact Nat.le_trans hlow.size h'
 ·rcases g3 _ hf with h' | h'
  ·exact(h3 x hx).2 h'
  ·have:=(h3 x hx).1.lt
   omega
include H
theorem lst_yes (h:Ps Has W0 v B n cs B L V) (hT:T W0) (s c:Nat) (f:Byts) (hs4:s < 4) (hc8:c < 8) (hf:B s=some f):Calls Tryz.prog 26 #[v,bkV cs,.int .i64 (s:Int),.int .i64 (c:Int)] V fun e V'=>e= .returned (.bool true)∧Ps Has W0 v B n cs B L V':=by
 have h1:=h.alloc H 33 cs
 obtain⟨F,hF,g2,g0,g3⟩:=h1.has
 have hgood:∀i,i < cnt c→(recAt f (recO c i)).isSome=true:=fun i hi=>by
  obtain⟨_,_,_,hgd⟩:=h.bl.opn s hs4 f hf
  obtain⟨a,b,d,e⟩:=hgd.recs c i hc8 hi
  rw [e];rfl
 have HS:=Lh (H.statesYes s c (h1.t H hT) hF hs4 hc8 hf hgood)
 have hsl:=Lh (fun w=>rslot_any (s:Int) w)
 have hcl:=Lh (fun w=>rclass_any (c:Int) w)
 have hs:isB (s:Int) 4=true:=isB_yes (n:=4) hs4
 have hc:isB (c:Int) 8=true:=isB_yes (n:=8) hc8
 rw [hs]at hsl
 rw [hc]at hcl
 have HNX:=Lh (fun V2 (hn:Nx Has _ v B n F V2)=>Ps.nx h1.bl h1.low g2 g0 g3 hn)
 have ho:=(h.bl.opn s hs4 f hf).1
 have HLEN:=Lh h.bl.len
 obtain⟨S,hS⟩:=Nm (str (txtC f c))
 have hrt:=fun A cp W hsW=>rtxt_any f c hc8 A cp W hsW hgood
 rw [←hS]at hrt
 have HRT:=Lh hrt
 have HSS:=Lh hS
 clear hrt hS
 have HRS:=Lh (fun W (hbl:BL W cs B)=>rstates_yes cs B f s c W hbl hs4 hc8 hf)
 have HBE:=Lh (fun(x:Rw) (V2 V3:World) (hp:Ps Has W0 v B n cs B (x :: L) V2) hb=>(hp.below H (V':=V3) hb).tail)
 have HSZ:=Lh (show(Tryz.prog.info? 33).map (·.size)=some cs.length by rw [HLEN.out];exact bk_size)
 have y0:(0:Int)≤(s:Int)∧(s:Int) < 4:=by omega
 obtain⟨y01,y02⟩:=y0
 clear h h1 hT hF g2 g0 g3 hs hc hgood H
 go_enter Tryz.func26,Tryz.ntmps26
 go_wp2_with fail
 refine(HS.out).mono ?_
 rintro e w1 ⟨ad,rfl,hnx,htx⟩
 have hp:=HNX.out _ hnx
 have hr:=hp.row 0 _ rfl
 have c31:w1.cell? ⟨V.heap.size,s*10,none⟩=some (.bool true):=(hr.cell _).trans ho
 have HR:=Lh (fun W (hb:Below w1.heap.size w1 W)=>row_range (hr.below hb))
 have HST:=Lh (fun W (hb:Below w1.heap.size w1 W)=>HRS.out W (hp.bl.below hb))
 have HPS:=Lh (fun W (hb:Below w1.heap.size w1 W)=>HBE.out _ w1 W hp hb)
 have HTX:=Lh (fun W (hb:Below w1.heap.size w1 W)=>(show Calls Tryz.prog 67 #[.pointer (some ad)] W fun e W'=>e= .returned (.string S)∧Below W.heap.size W W' from by rw [HSS.out];exact htx W (Keep.of_below hb) (fun k _ hk=>hb.block k hk)))
 clear hnx htx hp hr HS HNX HRS HBE ho
 go_wp2_with fail
 refine(hsl.out _).mono ?_
 rintro e wn ⟨rfl,rfl⟩
 go_wp2_with fail
 refine(hcl.out _).mono ?_
 rintro e wn ⟨rfl,rfl⟩
 go_wp2_with fail
 have hb0:Below w1.heap.size w1 w1.drew:=Br.drew
 refine wp_region_noPanic ?_
 refine wp_region_held_drew (S:=fun W=>W.rangeAt V.heap.size 0 cs) (by kernel_rfl) (HR.out _ hb0) (fun hZ=> ?_)
 refine tkH 0 hZ ?_
 try simp only [Act.put]
 refine wpAnyH_take (i:=2) rfl (by kernel_rfl) (by kernel_rfl) (by kernel_rfl) (fun _ _ _ h=>h) (yieldsIf_load_mid (by kernel_rfl) 33 (.tmp 5) rfl V.heap.size 0 rfl cs _ (fun W hW=>hW) Tryz.underlying33 rfl HSZ.out) hZ ?_
 try simp only [Act.put]
 refine tkH 3 hZ ?_
 try simp only [Act.put]
 refine tkH 4 hZ ?_
 try simp only [Act.put]
 refine rdH 1 fun K hK=> ?_
 go_simp
 refine(HTX.out _ hb0).mono ?_
 rintro e v1 ⟨rfl,hc1⟩
 have hb1:=below0 hb0 hc1
 refine hK.out _ _ (HR.out _ hb1) (fun hZ=> ?_)
 clear hK K
 try simp only [Act.put]
 refine rdH 5 fun K hK=> ?_
 go_simp
 refine(HST.out _ hb1).mono ?_
 rintro e v2 ⟨A,cp,rfl,hs2,hc2⟩
 have hb2:=below0 hb1 hc2
 refine hK.out _ _ (HR.out _ hb2) (fun hZ=> ?_)
 clear hK K
 try simp only [Act.put]
 refine rdH 6 fun K hK=> ?_
 go_simp
 refine(HRT.out A cp _ hs2).mono ?_
 rintro e v3 ⟨rfl,hc3⟩
 have hb3:=below0 hb2 hc3
 refine hK.out _ _ (HR.out _ hb3) (fun hZ=> ?_)
 clear hK K
 try simp only [Act.put]
 refine tkH 7 hZ ?_
 try simp only [Act.put]
 refine tkH 8 hZ ?_
 try simp only [Act.put]
 refine tkH 9 hZ ?_
 try simp only [Act.put]
 refine rdH 10 fun K hK=> ?_
 go_simp
 refine(num_any _ _).mono ?_
 rintro e wn ⟨rfl,rfl⟩
 refine hK.out _ _ (HR.out _ hb3) (fun hZ=> ?_)
 clear hK K
 try simp only [Act.put]
 refine tkH 11 hZ ?_
 try simp only [Act.put]
 refine tkH 12 hZ ?_
 try simp only [Act.put]
 refine rdH 13 fun K hK=> ?_
 go_simp
 refine hK.out _ _ (HR.out _ hb3) (fun hZ=> ?_)
 clear hK K
 try simp only [Act.put]
 refine wpAnyH_done (by kernel_rfl) (NoPanic.normal ?_) _
 have hfin:=HPS.out _ hb3
 go_wp2_with fail
 go_ret
 exact⟨rfl,hfin⟩
end
abbrev zeroBk:List Value:=zbl
theorem keep_cells (g:Nat) {w:World}:∀(cs:List Value) (o:Nat) (W:World),Keep (· =g) w W→Keep (· =g) w (W.setCells g o cs)
 | [],_,_,h=>h
 | v :: r,o,W,h=>by
  rw [World.setCells]
  exact keep_cells g r (o+1) _ (h.set v (.inl rfl))
theorem cells_size (g:Nat):∀(cs:List Value) (o:Nat) (W:World),(W.setCells g o cs).heap.size=W.heap.size
 | [],_,_=>rfl
 | v :: r,o,W=>by
  rw [World.setCells,cells_size g r]
  simp
section
variable {T:World→Prop} {Has:HasT} (H:MApi T Has)
variable {W0 V W W':World} {v:Value} {B B' B2 B3:Bks} {n n':Nat} {cs cs' ws xs zs:List Value} {M L L1 L2:List Rw}
include H
theorem Ps.set {g:Nat} {t:TypeId} {l l':List Value} (h:Ps Has W0 v B n cs B2 (L1 ++ (g,t,l) :: L2) W) (hk:Keep (· =g) W W') (hr:Row W' g t l') (hg:W0.heap.size≤g) (hoff:Apart W cs (· =g)) (h1:∀x∈L1,x.1≠g) (h2:∀x∈L2,x.1≠g):
  Ps Has W0 v B n cs B2 (L1 ++ (g,t,l') :: L2) W':=by
 obtain⟨F,a1,a2,a0,a3⟩:=h.has
 have gF:¬F g:=(a3 (g,t,l) (by simp)).2
 refine⟨⟨F,H.keep a1 (fun k hk'=>hk.block k (H.lt a1 k hk') (fun e=>gF (e ▸ hk'))),a2,a0.next (fun k hk=> .inl hk) hk.size,fun x hx=> ?_⟩,h.bl.keep hoff hk,h.low.trans (hk.below (fun k e=>by subst e;exact hg) h.low.size)⟩
 rcases List.mem_append.1 hx with hx | hx
 ·have:=a3 x (List.mem_append_left _ hx)
  exact⟨hk.row this.1 (h1 x hx),this.2⟩
 ·rcases List.mem_cons.1 hx with rfl | hx
  ·exact⟨hr,gF⟩
  ·have:=a3 x (List.mem_append_right _ (List.mem_cons_of_mem _ hx))
   exact⟨hk.row this.1 (h2 x hx),this.2⟩
omit H in
theorem Ps.drop (h:Ps Has W0 v B n cs B2 (L1 ++ L2) W):Ps Has W0 v B n cs B2 L2 W:=by
 obtain⟨F,a1,a2,a0,a3⟩:=h.has
 exact⟨⟨F,a1,a2,a0,fun x hx=>a3 x (List.mem_append_right _ hx)⟩,h.bl,h.low⟩
def Lap (cs:List Value) (L:List Rw):Prop:=∀x∈L,∀(j:Nat) (A:Addr) (n c:Nat),cs[j]?=some (Value.slice (some A) n c)→A.block≠x.1
structure PsL (Has:HasT) (W0:World) (v:Value) (B:Bks) (n:Nat) (cs:List Value) (B2:Bks) (L:List Rw) (V:World):Prop extends Ps Has W0 v B n cs B2 L V where
 lap:Lap cs L
omit H in
theorem Lap.more {x:Rw} (h:Lap cs L) (hx:∀(j:Nat) (A:Addr) (n c:Nat),cs[j]?=some (Value.slice (some A) n c)→A.block≠x.1):Lap cs (x :: L):=fun y hy=>by
 rcases List.mem_cons.1 hy with rfl | hy
 ·exact hx
 ·exact h y hy
theorem PsL.alloc (h:PsL Has W0 v B n cs B2 L V) (t:TypeId) (l:List Value):PsL Has W0 v B n cs B2 ((V.heap.size,t,l) :: L) (V.alloc (.cells l.toArray t)):=
 ⟨h.toPs.alloc H t l,h.lap.more fun j A n c hj=>by
  obtain⟨F,_,_,a0,_⟩:=h.has
  have:=(a0 j A n c hj).1
  simp only
  omega⟩
theorem PsL.below (h:PsL Has W0 v B n cs B2 L W) (hb:Below W.heap.size W W'):PsL Has W0 v B n cs B2 L W':=⟨h.toPs.below H hb,h.lap⟩
theorem PsL.set {g:Nat} {t:TypeId} {l l':List Value} (h:PsL Has W0 v B n cs B2 (L1 ++ (g,t,l) :: L2) W) (hk:Keep (· =g) W W') (hr:Row W' g t l') (hg:W0.heap.size≤g) (h1:∀x∈L1,x.1≠g) (h2:∀x∈L2,x.1≠g):
  PsL Has W0 v B n cs B2 (L1 ++ (g,t,l') :: L2) W':=by
 refine⟨h.toPs.set H hk hr hg (fun j A n c hj=> ?_) h1 h2,fun x hx j A n c hj=> ?_⟩
 ·obtain⟨F,_,_,a0,_⟩:=h.has
  exact⟨(a0 j A n c hj).1,h.lap (g,t,l) (List.mem_append_right _ (List.mem_cons_self ..)) j A n c hj⟩
 ·rcases List.mem_append.1 hx with hx | hx
  ·exact h.lap x (List.mem_append_left _ hx) j A n c hj
  ·rcases List.mem_cons.1 hx with rfl | hx
   ·exact h.lap (g,t,l) (List.mem_append_right _ (List.mem_cons_self ..)) j A n c hj
   ·exact h.lap x (List.mem_append_right _ (List.mem_cons_of_mem _ hx)) j A n c hj
structure In (Has:HasT) (W0 V:World) (v:Value) (B:Bks) (n:Nat) (cs ws xs:List Value) (B2:Bks) (zs:List Value) (M L:List Rw) (W:World):Prop where
 ps:Ps Has W0 v B n cs B2 (M ++ (V.heap.size+1+1,33,zs) :: (V.heap.size+1,45,xs) :: (V.heap.size,33,ws) :: L) W
 off:∀(j:Nat) (A:Addr) (n c:Nat),cs[j]?=some (Value.slice (some A) n c)→A.block < V.heap.size∨V.heap.size+3≤A.block
 mof:∀x∈M,V.heap.size+3≤x.1
 lof:∀x∈L,x.1 < V.heap.size
 low:W0.heap.size≤V.heap.size
 sz:V.heap.size+3≤W.heap.size
 zlen:zs.length=40
 lap:Lap cs L
theorem In.start (h:PsL Has W0 v B n cs B2 L V) (xs:List Value):In Has W0 V v B n cs cs xs B2 zeroBk [] L (((V.alloc (.cells cs.toArray 33)).alloc (.cells xs.toArray 45)).alloc (.cells zeroBk.toArray 33)):=by
 have h1:=h.toPs.alloc H 33 cs
 have h2:=h1.alloc H 45 xs
 have h3:=h2.alloc H 33 zeroBk
 simp only [World.size_alloc]at h3
 refine⟨h3,fun j A n c hj=> ?_,fun x hx=>absurd hx (by simp),fun x hx=> ?_,h.low.size,by simp only [World.size_alloc];omega,rfl,h.lap⟩
 ·obtain⟨F,_,_,a0,_⟩:=h.has
  exact .inl (a0 j A n c hj).1
 ·obtain⟨F,_,_,_,a3⟩:=h.has
  exact(a3 x hx).1.lt
omit H in
theorem In.row6 (h:In Has W0 V v B n cs ws xs B2 zs M L W):Row W (V.heap.size+1+1) 33 zs:=by
 obtain⟨F,_,_,_,a3⟩:=h.ps.has
 exact(a3 (_,_,zs) (List.mem_append_right _ (List.mem_cons_self ..))).1
omit H in
theorem In.row5 (h:In Has W0 V v B n cs ws xs B2 zs M L W):Row W (V.heap.size+1) 45 xs:=by
 obtain⟨F,_,_,_,a3⟩:=h.ps.has
 exact(a3 (_,_,xs) (List.mem_append_right _ (List.mem_cons_of_mem _ (List.mem_cons_self ..)))).1
omit H in
theorem In.row4 (h:In Has W0 V v B n cs ws xs B2 zs M L W):Row W V.heap.size 33 ws:=by
 obtain⟨F,_,_,_,a3⟩:=h.ps.has
 exact(a3 (_,_,ws) (List.mem_append_right _ (List.mem_cons_of_mem _ (List.mem_cons_of_mem _ (List.mem_cons_self ..))))).1
omit H in
theorem In.rowM (h:In Has W0 V v B n cs ws xs B2 zs M L W) (k:Nat) (x:Rw) (hx:M[k]?=some x):Row W x.1 x.2.1 x.2.2:=by
 obtain⟨F,_,_,_,a3⟩:=h.ps.has
 exact(a3 x (List.mem_append_left _ (List.mem_of_getElem? hx))).1
omit H in
theorem In.fin (h:In Has W0 V v B n cs ws xs B2 zs M L W):PsL Has W0 v B n cs B2 L W:=by
 have h1:=h.ps
 rw [show M ++ (V.heap.size+1+1,33,zs) :: (V.heap.size+1,45,xs) :: (V.heap.size,33,ws) :: L=(M ++ [(V.heap.size+1+1,33,zs),(V.heap.size+1,45,xs),(V.heap.size,33,ws)]) ++ L by simp]at h1
 exact⟨h1.drop,h.lap⟩
theorem In.below (h:In Has W0 V v B n cs ws xs B2 zs M L W) (hb:Below W.heap.size W W'):In Has W0 V v B n cs ws xs B2 zs M L W':=
 ⟨h.ps.below H hb,h.off,h.mof,h.lof,h.low,Nat.le_trans h.sz hb.size,h.zlen,h.lap⟩
theorem In.pure (h:In Has W0 V v B n cs ws xs B2 zs M L W) {f:Nat} {args:Array Value} {P:Ending→Prop} (hc:Calls Tryz.prog f args W fun e W'=>P e∧Below W.heap.size W W'):Calls Tryz.prog f args W fun e W'=>P e∧In Has W0 V v B n cs ws xs B2 zs M L W':=
 hc.mono fun _ _ ⟨e1,e2⟩=>⟨e1,h.below H e2⟩
theorem In.new (h:In Has W0 V v B n cs ws xs B2 zs M L W) (hb:Below W.heap.size W W') (hn:NewL W W' cs cs') (hbl:BL W' cs' B3):In Has W0 V v B n cs' ws xs B3 zs M L W':=
 ⟨h.ps.put H hb hn hbl,fun j A n c hj=>by
  rcases hn j A n c hj with h1 | ⟨h1,_⟩
  ·exact h.off j A n c h1
  ·exact .inr (Nat.le_trans h.sz h1),h.mof,h.lof,h.low,Nat.le_trans h.sz hb.size,h.zlen,fun x hx j A n c hj=>by
  rcases hn j A n c hj with h1 | ⟨h1,_⟩
  ·exact h.lap x hx j A n c h1
  ·have:=h.lof x hx
   have:=h.sz
   omega⟩
theorem In.alloc (h:In Has W0 V v B n cs ws xs B2 zs M L W) (t:TypeId) (l:List Value):In Has W0 V v B n cs ws xs B2 zs ((W.heap.size,t,l) :: M) L (W.alloc (.cells l.toArray t)):=
 ⟨h.ps.alloc H t l,h.off,fun x hx=>by
  rcases List.mem_cons.1 hx with rfl | hx
  ·exact h.sz
  ·exact h.mof x hx,h.lof,h.low,by rw [World.size_alloc];have:=h.sz;omega,h.zlen,h.lap⟩
omit H in
theorem In.call (h:In Has W0 V v B n cs ws xs B2 zs M L W) {f:Nat} {args:Array Value} {P:Ending→Prop} (hc:∀F,Has W v B n F→Calls Tryz.prog f args W fun e V'=>P e∧Nx Has W v B' n' F V'):Calls Tryz.prog f args W fun e V'=>P e∧In Has W0 V v B' n' cs ws xs B2 zs M L V':=by
 obtain⟨F,a1,a2,a0,a3⟩:=h.ps.has
 refine(hc F a1).mono fun e V' ⟨e1,hn⟩=>⟨e1,?_⟩
 have h2:V.heap.size+3≤V'.heap.size:=by
  obtain⟨F',_,g2,_⟩:=hn
  exact Nat.le_trans h.sz g2.size
 exact⟨Ps.nx h.ps.bl h.ps.low a2 a0 a3 hn,h.off,h.mof,h.lof,h.low,h2,h.zlen,h.lap⟩
theorem In.six (h:In Has W0 V v B n cs ws xs B2 zs M L W) (l:List Value) (hl:l.length=40):In Has W0 V v B n cs ws xs B2 l M L (W.setCells (V.heap.size+1+1) 0 l.toArray.toList):=by
 have hr:=set_from l [] zs h.row6 (by rw [h.zlen,hl])
 have hk:=keep_cells (V.heap.size+1+1) l.toArray.toList 0 W (Keep.refl W)
 have h1:=h.ps.bl
 obtain⟨F,_,_,a0,_⟩:=h.ps.has
 refine⟨h.ps.set H hk hr (by have:=h.low;omega) (fun j A n c hj=>⟨(a0 j A n c hj).1,fun e=> ?_⟩) (fun x hx=>by have:=h.mof x hx;omega) (fun x hx=> ?_),h.off,h.mof,h.lof,h.low,by rw [cells_size];exact h.sz,hl,h.lap⟩
 ·have:=h.off j A n c hj
  omega
 ·rcases List.mem_cons.1 hx with rfl | hx
  ·simp only;omega
  ·rcases List.mem_cons.1 hx with rfl | hx
   ·simp only;omega
   ·have:=h.lof x hx;omega
end
section
variable {T:World→Prop} {Has:HasT} (H:MApi T Has)
variable {W0 V W W':World} {v:Value} {B B' B2 B3:Bks} {n n':Nat} {cs cs' ws xs zs:List Value} {M L:List Rw}
def ActQ (Has:HasT) (W0:World) (v:Value) (B:Bks) (n:Nat) (cs:List Value) (B2:Bks) (L:List Rw) (e:Ending) (V':World):Prop:=e= .returned (.tuple #[bkV cs,.bool true])∧PsL Has W0 v B n cs B2 L V'
theorem In.next (h:In Has W0 V v B n cs ws xs B2 zs M L W) (h':Ps Has W0 v B' n' cs B3 (M ++ (V.heap.size+1+1,33,zs) :: (V.heap.size+1,45,xs) :: (V.heap.size,33,ws) :: L) W'):In Has W0 V v B' n' cs ws xs B3 zs M L W':=by
 refine⟨h',h.off,h.mof,h.lof,h.low,?_,h.zlen,h.lap⟩
 obtain⟨F,_,_,_,a3⟩:=h'.has
 have:=(a3 (_,_,zs) (List.mem_append_right _ (List.mem_cons_self ..))).1.lt
 simp only at this
 omega
theorem states_zero {B:Bks} {s c:Int} (h:statesE B s c=0):∃(s' c':Nat) (f:Byts),s=s'∧c=c'∧s' < 4∧c' < 8∧B s'=some f:=by
 unfold statesE at h
 by_cases h1:isB s 4=true∧isB c 8=true
 ·rw [if_pos h1]at h
  obtain⟨s',rfl,h4⟩:=isB_nat (b:=4) h1.1
  obtain⟨c',rfl,h8⟩:=isB_nat (b:=8) h1.2
  cases hf:B s' with
  | none=>
   unfold openE at h
   rw [Int.toNat_natCast,hf]at h
   cases h
  | some f=>exact⟨s',c',f,rfl,rfl,h4,h8,hf⟩
 ·rw [if_neg h1]at h
  cases h
theorem step_store_mid {P:Program} {ops:Array Oper} {o:Oper} {a:Act} {w:World} {K:Act→World→Prop} {Q:Exit→Act→World→Prop} {E:Prop}
  (hg:o.guard=none) (ty:TypeId) (x y:Operand) (ho:o.op= .store ty x y) (b off:Nat) (cells:Array Value) (hx:a.eval x= .pointer (some ⟨b,off,none⟩)) (hy:a.eval y= .agg cells)
  (ht:w.there b off cells.size) (hi:(P.info? ty).map (·.size)=some cells.size) (h1:cells.all (·.oneCell')=true) (hK:K (a.put o.dst undef) (w.setCells b off cells.toList)):
  if Region.wanted o (yielded ops a.tmps)=true then Oper.wp P o a w K Q else E:=by
 rw [if_pos (by simp [Region.wanted,hg])]
 exact wp_store_mid ty x y ho b off cells hx hy ht hi h1 hK
include H
theorem act_else (h:PsL Has W0 v B n cs B L V) (hT:T W0) (x s c i st sz:Int) (no:Nat) (a b d f:Int) (hx:¬(0≤x∧x≤5)):
  Calls Tryz.prog 7 #[v,bkV cs,.agg (aca x s c i st sz no a b d f)] V (ActQ Has W0 v B n cs B L):=by
 obtain⟨W1,hW1⟩:=Nm (((V.alloc (.cells cs.toArray 33)).alloc (.cells (aca x s c i st sz no a b d f) 45)).alloc (.cells zba 33))
 have hS0:In Has W0 V v B n cs cs (acl x s c i st sz no a b d f) B zeroBk [] L W1:=by rw [hW1];exact In.start H h (acl x s c i st sz no a b d f)
 have ht0:T W1:=hS0.ps.t H hT
 have q0:(x == 0)=false:=by rw [beq_eq_false_iff_ne];omega
 have q1:(x == 1)=false:=by rw [beq_eq_false_iff_ne];omega
 have q2:(x == 2)=false:=by rw [beq_eq_false_iff_ne];omega
 have q3:(x == 3)=false:=by rw [beq_eq_false_iff_ne];omega
 have q4:(x == 4)=false:=by rw [beq_eq_false_iff_ne];omega
 have q5:(x == 5)=false:=by rw [beq_eq_false_iff_ne];omega
 have HST:Hid (∀(zs:List Value) (W:World),In Has W0 V v B n cs cs (acl x s c i st sz no a b d f) B zs [] L W→Calls Tryz.prog 26 #[v,bkV cs,.int .i64 s,.int .i64 c] W fun e W'=>e= .returned (.bool true)∧In Has W0 V v B n cs cs (acl x s c i st sz no a b d f) B zs [] L W'):=Lh (fun zs W hI=>by
  by_cases hE:statesE B s c=0
  ·obtain⟨s',c',f',rfl,rfl,h4,h8,hf⟩:=states_zero hE
   exact(lst_yes H hI.ps hT s' c' f' h4 h8 hf).mono fun e W' ⟨e1,e2⟩=>⟨e1,hI.next e2⟩
  ·exact(lst_no H hI.ps hT s c hE).mono fun e W' ⟨e1,e2⟩=>⟨e1,hI.next e2⟩)
 obtain⟨cs',hcs⟩:∃cs',cs'=cs:=⟨_,rfl⟩
 subst hcs
 have HLEN:=Lh h.bl.len
 have HSZ:=Lh (show(Tryz.prog.info? 33).map (·.size)=some cs'.length by rw [HLEN.out];exact bk_size)
 have HSZ2:=Lh (show(Tryz.prog.info? 33).map (·.size)=some cs'.toArray.size by rw [List.size_toArray,HLEN.out];exact bk_size)
 have HONE:=Lh (all_oneCell_toArray h.bl.one)
 have HSP:Hid (∀(zs:List Value) (W:World),In Has W0 V v B n cs' cs' (acl x s c i st sz no a b d f) B zs [] L W→W.rangeAt V.heap.size 0 cs'∧W.cell? ⟨V.heap.size+1,2,none⟩=some (.int .i64 c)):=Lh (fun _ _ hI=>⟨row_range hI.row4,hI.row5.cell 2⟩)
 have HQ:Hid (∀(W:World),PsL Has W0 v B n cs' B L W→ActQ Has W0 v B n cs' B L (.returned (.tuple #[bkV cs',.bool true])) W):=Lh (fun _ hp=>⟨rfl,hp⟩)
 clear h hT ht0 hx
 go_enter Tryz.func7,Tryz.ntmps7
 go_wp2_with fail
 rw [←hW1]
 clear hW1
 have d0:W1.cell? ⟨V.heap.size+1,0,none⟩=some (.int .i64 x):=hS0.row5.cell 0
 have d1:W1.cell? ⟨V.heap.size+1,1,none⟩=some (.int .i64 s):=hS0.row5.cell 1
 go_wp2_with fail
 have hI0:In Has W0 V v B n cs' cs' (acl x s c i st sz no a b d f) B zeroBk [] L W1.drew:=hS0.below H (show Below W1.heap.size W1 W1.drew from Br.drew)
 clear d0 d1
 refine wp_region_noPanic ?_
 refine wp_region_held_drew (S:=fun W=>W.rangeAt V.heap.size 0 cs'∧W.cell? ⟨V.heap.size+1,2,none⟩=some (.int .i64 c)) (by kernel_rfl) (HSP.out _ _ hI0) (fun hZ=> ?_)
 refine wpAnyH_take (i:=0) rfl (by kernel_rfl) (by kernel_rfl) (by kernel_rfl) (fun _ _ _ h=>h) (yieldsIf_load_mid (by kernel_rfl) 33 (.tmp 4) rfl (V.heap.size) 0 rfl cs' _ (fun W hW=>hW.1) Tryz.underlying33 rfl HSZ.out) hZ ?_
 try simp only [Act.put]
 refine tkH 1 hZ ?_
 try simp only [Act.put]
 refine wpAnyH_take (i:=2) rfl (by kernel_rfl) (by kernel_rfl) (by kernel_rfl) (fun _ _ _ h=>h) (yieldsIf_load_mid (by kernel_rfl) 33 (.tmp 4) rfl (V.heap.size) 0 rfl cs' _ (fun W hW=>hW.1) Tryz.underlying33 rfl HSZ.out) hZ ?_
 try simp only [Act.put]
 refine tkH 3 hZ ?_
 try simp only [Act.put]
 refine tkH 4 hZ ?_
 try simp only [Act.put]
 refine tkH 5 hZ ?_
 try simp only [Act.put]
 refine tkH 6 hZ ?_
 try simp only [Act.put]
 refine rdH 7 fun K hK=> ?_
 go_simp
 refine(HST.out _ _ hI0).mono ?_
 rintro e v1 ⟨rfl,hI1⟩
 refine hK.out _ _ (HSP.out _ _ hI1) (fun hZ=> ?_)
 clear hK K
 try simp only [Act.put]
 refine rdH 8 fun K hK=> ?_
 refine step_store_mid rfl 33 _ _ rfl (V.heap.size+1+1) 0 cs'.toArray (by simp [Act.eval]) (by simp [Act.eval]) (row_there hI1.row6 (by rw [List.size_toArray,hI1.zlen,HLEN.out])) HSZ2.out HONE.out ?_
 have hI2:=hI1.six H cs' HLEN.out
 refine hK.out _ _ (HSP.out _ _ hI2) (fun hZ=> ?_)
 clear hK K
 try simp only [Act.put]
 refine rdH 9 fun K hK=> ?_
 go_simp
 refine hK.out _ _ (HSP.out _ _ hI2) (fun hZ=> ?_)
 clear hK K
 try simp only [Act.put]
 refine wpAnyH_done (by kernel_rfl) (NoPanic.normal ?_) _
 go_wp2_with fail
 exact bodyPost_ret (res_cell2 Tryz.results7 rfl (bk_load hI2.row6 HLEN.out)) rfl (HQ.out _ hI2.fin)
end
end Go.Proofs.YtfcfbcjiijfjgaaGreatDoor.Me
