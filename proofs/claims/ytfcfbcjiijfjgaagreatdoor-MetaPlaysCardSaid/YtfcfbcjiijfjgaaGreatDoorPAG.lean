import Derived.Test.YtfcfbcjiijfjgaaGreatDoorPAC
import Derived.Deep.MidRow
import Derived.Test.YtfcfbcjiijfjgaaGreatDoorPAE
set_option maxHeartbeats 2000000
set_option maxRecDepth 100000
namespace Go.Proofs.YtfcfbcjiijfjgaaGreatDoor.Me
open Go.RowKit Go.Shelf
attribute [local go_sem] Oper.semAt_some
theorem three_set {w w1:World} {g:Nat} {t:TypeId} {x y z:Value} (hrow:Row w1 g t [x,y,z]) (hb:Below w.heap.size w w1) (hg:w.heap.size≤g) (a b c:Value):
  (((w1.setCell ⟨g,0,none⟩ a).setCell ⟨g,1,none⟩ b).setCell ⟨g,2,none⟩ c).cell? ⟨g,0,none⟩=some a∧(((w1.setCell ⟨g,0,none⟩ a).setCell ⟨g,1,none⟩ b).setCell ⟨g,2,none⟩ c).cell? ⟨g,1,none⟩=some b∧(((w1.setCell ⟨g,0,none⟩ a).setCell ⟨g,1,none⟩ b).setCell ⟨g,2,none⟩ c).cell? ⟨g,2,none⟩=some c∧Below w.heap.size w (((w1.setCell ⟨g,0,none⟩ a).setCell ⟨g,1,none⟩ b).setCell ⟨g,2,none⟩ c):=by
 have h:=((hrow.set 0 a).set 1 b).set 2 c
 exact⟨h.cell 0,h.cell 1,h.cell 2,((hb.setCell hg _).setCell hg _).setCell hg _⟩
def NoS (A a k j:Nat):Prop:=∀s c i,okS s c i→(s < a∨(s=a∧(c < k∨(c=k∧i < j))))→atS s c i≠A
theorem NoS.one {A a k j:Nat} (h:NoS A a k j) (hn:atS a k j≠A):NoS A a k (j+1):=by
 intro s c i hs hl
 by_cases he:s=a∧c=k∧i=j
 ·obtain⟨rfl,rfl,rfl⟩:=he
  exact hn
 ·exact h s c i hs (by omega)
theorem NoS.all {A:Nat} (h:NoS A 4 0 0):findS A=none:=findS_none fun s c i hs=>h s c i hs (.inl hs.1)
def fndV (o:Option (Nat × Nat × Nat)):Value:=match o with
 | some (s,c,i)=> .tuple #[spV (s:Int) (c:Int) (i:Int),.int .i64 0]
 | none=> .tuple #[spV 0 0 0,.int .i64 250]
abbrev Byts:=Nat→UInt8
abbrev Bks:=Nat→Option Byts
def zeroB:Byts:=fun _=>0
def upd (B:Bks) (s:Nat) (x:Option Byts):Bks:=fun k=>if k=s then x else B k
def le2 (f:Byts) (o:Nat):Nat:=(f o).toNat+256*(f (o+1)).toNat
def le4 (f:Byts) (o:Nat):Nat:=le2 f o+65536*le2 f (o+2)
def putB (f:Byts) (o:Nat) (bs:List UInt8):Byts:=fun k=>if o≤k∧k < o+bs.length then bs.getD (k - o) 0 else f k
def recAt (f:Byts) (o:Nat):Option (Nat × Nat × Nat):=if(f o).toNat≤4∧f (o+1)=0 then some ((f o).toNat,le2 f (o+2),le4 f (o+4)) else none
def greatAt (f:Byts) (o:Nat):Option (Nat × Nat × Nat × Nat):=if(f o).toNat≤4∧f (o+1)=0∧le4 f (o+4)≤262144∧le4 f (o+8)≤65535∧le4 f (o+12)=0 then some ((f o).toNat,le2 f (o+2),le4 f (o+4),le4 f (o+8)) else none
def by2 (n:Nat):List UInt8:= [UInt8.ofNat n,UInt8.ofNat (n / 256)]
def by4 (n:Nat):List UInt8:=by2 n ++ by2 (n / 65536)
def recB (st sz no:Nat):List UInt8:= [UInt8.ofNat st,0] ++ by2 sz ++ by4 no
def greatB (st pg sz fi:Nat):List UInt8:= [UInt8.ofNat st,0] ++ by2 pg ++ by4 sz ++ by4 fi ++ by4 0
def recO (c i:Nat):Nat:=768*c+8*i
def greatO (i:Nat):Nat:=6144+16*i
abbrev rcV (st sz:Int) (no:Nat):Value:= .agg #[.int .i64 st,.int .i64 sz,.int .u32 (no:Int)]
abbrev gtV (st pg sz fi:Int):Value:= .agg #[.int .i64 st,.int .i64 pg,.int .i64 sz,.int .i64 fi]
def rightR (st sz:Int):Prop:=0≤st∧st≤4∧0≤sz∧sz≤65535
def rightG (st pg sz fi:Int):Prop:=0≤st∧st≤4∧0≤sz∧sz≤262144∧0≤pg∧pg≤65535∧0≤fi∧fi≤65535
instance (st sz:Int):Decidable (rightR st sz):=inferInstanceAs (Decidable (_∧_))
instance (st pg sz fi:Int):Decidable (rightG st pg sz fi):=inferInstanceAs (Decidable (_∧_))
def openE (B:Bks) (s:Int):Int:=if(B s.toNat).isNone then 5 else 0
def getE (B:Bks) (s c i:Int):Int:=if asksS s c i≠0 then asksS s c i else openE B s
def putE (B:Bks) (s c i st sz:Int):Int:=if asksS s c i=2∨¬rightR st sz then 2 else getE B s c i
def gasks (s i:Int):Int:=if isB s 4=true then(if i < 0∨384≤i then 4 else 0) else 2
def ggetE (B:Bks) (s i:Int):Int:=if gasks s i≠0 then gasks s i else openE B s
def gputE (B:Bks) (s i st pg sz fi:Int):Int:=if gasks s i=2∨¬rightG st pg sz fi then 2 else ggetE B s i
def openA (B:Bks) (n:Nat) (s:Int):Int:=if isB s 4=false then 2 else if(B s.toNat).isSome then 180 else if n < 48 then 171 else 0
def closeA (B:Bks) (s:Int):Int:=if isB s 4=false then 2 else openE B s
def statesE (B:Bks) (s c:Int):Int:=if isB s 4=true∧isB c 8=true then openE B s else 2
def txtC (f:Byts) (c:Nat):List UInt8:=(List.range (cnt c)).map fun i=> [102,107,108,104,103].getD (f (recO c i)).toNat 0
abbrev HasT:=World→Value→Bks→Nat→(Nat→Prop)→Prop
def Nx (Has:HasT) (w:World) (v:Value) (B:Bks) (n:Nat) (F:Nat→Prop) (w':World):Prop:=∃F',Has w' v B n F'∧Keep F w w'∧∀k,F' k→F k∨w.heap.size≤k
structure MBase (T:World→Prop) (Has:HasT):Prop where
 tb:∀{w w'},T w→Below w.heap.size w w'→T w'
 keep:∀{w w' v B n F},Has w v B n F→(∀k,F k→w'.heap[k]?=w.heap[k]?)→Has w' v B n F
 lt:∀{w v B n F},Has w v B n F→∀k,F k→k < w.heap.size
 ptr:∀{w v B n F},Has w v B n F→∃ad,v= .pointer (some ad)
 atYes:∀{s c i:Nat} (w:World),T w→okS s c i→Calls Tryz.prog 8 #[spV (s:Int) (c:Int) (i:Int)] w fun e w'=>e= .returned (.tuple #[.int .u32 (atS s c i:Int),.int .i64 0])∧Below w.heap.size w w'
 atNo:∀{s c i:Int} (w:World),T w→asksS s c i≠0→Calls Tryz.prog 8 #[spV s c i] w fun e w'=>e= .returned (.tuple #[.int .u32 0,.int .i64 (asksS s c i)])∧Below w.heap.size w w'
 find:∀(a:Nat) (w:World),T w→a < 4294967296→Calls Tryz.prog 9 #[.int .u32 (a:Int)] w fun e w'=>e= .returned (fndV (findS a))∧Below w.heap.size w w'
 new1:∀(w:World),T w→Calls Tryz.prog 10 #[.int .i64 1] w fun e w'=>∃v F,e= .returned (.tuple #[v,.int .i64 0])∧Has w' v (fun _=>none) 0 F∧(∀k,F k→w.heap.size≤k)∧Below w.heap.size w w'
 mem:∀(w:World),T w→Calls Tryz.prog 5 #[] w fun e w'=>∃v F,e= .returned (.tuple #[v,.bool true])∧Has w' v (fun _=>none) 100 F∧(∀k,F k→w.heap.size≤k)∧Below w.heap.size w w'
 openYes:∀{w v B n F} (s:Nat),T w→Has w v B n F→openA B n (s:Int)=0→Calls Tryz.prog 17 #[v,.int .i64 (s:Int),.int .i64 63] w fun e w'=>e= .returned (.int .i64 0)∧Nx Has w v (upd B s (some zeroB)) (n - 48) F w'
 openNo:∀{w v B n F} (s:Int),T w→Has w v B n F→openA B n s≠0→Calls Tryz.prog 17 #[v,.int .i64 s,.int .i64 63] w fun e w'=>e= .returned (.int .i64 (openA B n s))∧Nx Has w v B n F w'
 closeYes:∀{w v B n F} (s:Nat),T w→Has w v B n F→closeA B (s:Int)=0→Calls Tryz.prog 18 #[v,.int .i64 (s:Int)] w fun e w'=>e= .returned (.int .i64 0)∧Nx Has w v (upd B s none) (n+48) F w'
 closeNo:∀{w v B n F} (s:Int),T w→Has w v B n F→closeA B s≠0→Calls Tryz.prog 18 #[v,.int .i64 s] w fun e w'=>e= .returned (.int .i64 (closeA B s))∧Nx Has w v B n F w'
 getYes:∀{w v B n F f st sz no} (s c i:Nat),T w→Has w v B n F→okS s c i→B s=some f→recAt f (recO c i)=some (st,sz,no)→Calls Tryz.prog 14 #[v,spV (s:Int) (c:Int) (i:Int)] w fun e w'=>e= .returned (.tuple #[rcV (st:Int) (sz:Int) no,.int .i64 0])∧Nx Has w v B n F w'
 getNo:∀{w v B n F} (s c i:Int),T w→Has w v B n F→getE B s c i≠0→Calls Tryz.prog 14 #[v,spV s c i] w fun e w'=>e= .returned (.tuple #[rcV 0 0 0,.int .i64 (getE B s c i)])∧Nx Has w v B n F w'
 putYes:∀{w v B n F f} (s c i st sz no:Nat),T w→Has w v B n F→okS s c i→st≤4→sz≤65535→no < 4294967296→B s=some f→Calls Tryz.prog 11 #[v,spV (s:Int) (c:Int) (i:Int),rcV (st:Int) (sz:Int) no] w fun e w'=>e= .returned (.int .i64 0)∧Nx Has w v (upd B s (some (putB f (recO c i) (recB st sz no)))) n F w'
 putNo:∀{w v B n F} (s c i st sz:Int) (no:Nat),T w→Has w v B n F→no < 4294967296→putE B s c i st sz≠0→Calls Tryz.prog 11 #[v,spV s c i,rcV st sz no] w fun e w'=>e= .returned (.int .i64 (putE B s c i st sz))∧Nx Has w v B n F w'
 ggetYes:∀{w v B n F f st pg sz fi} (s i:Nat),T w→Has w v B n F→s < 4→i < 384→B s=some f→greatAt f (greatO i)=some (st,pg,sz,fi)→Calls Tryz.prog 15 #[v,.int .i64 (s:Int),.int .i64 (i:Int)] w fun e w'=>e= .returned (.tuple #[gtV (st:Int) (pg:Int) (sz:Int) (fi:Int),.int .i64 0])∧Nx Has w v B n F w'
 ggetNo:∀{w v B n F} (s i:Int),T w→Has w v B n F→ggetE B s i≠0→Calls Tryz.prog 15 #[v,.int .i64 s,.int .i64 i] w fun e w'=>e= .returned (.tuple #[gtV 0 0 0 0,.int .i64 (ggetE B s i)])∧Nx Has w v B n F w'
 gputYes:∀{w v B n F f} (s i st pg sz fi:Nat),T w→Has w v B n F→s < 4→i < 384→rightG (st:Int) (pg:Int) (sz:Int) (fi:Int)→B s=some f→Calls Tryz.prog 19 #[v,.int .i64 (s:Int),.int .i64 (i:Int),gtV (st:Int) (pg:Int) (sz:Int) (fi:Int)] w fun e w'=>e= .returned (.int .i64 0)∧Nx Has w v (upd B s (some (putB f (greatO i) (greatB st pg sz fi)))) n F w'
 gputNo:∀{w v B n F} (s i st pg sz fi:Int),T w→Has w v B n F→gputE B s i st pg sz fi≠0→Calls Tryz.prog 19 #[v,.int .i64 s,.int .i64 i,gtV st pg sz fi] w fun e w'=>e= .returned (.int .i64 (gputE B s i st pg sz fi))∧Nx Has w v B n F w'
structure MApi (T:World→Prop) (Has:HasT):Prop extends MBase T Has where
 statesYes:∀{w v B n F f} (s c:Nat),T w→Has w v B n F→s < 4→c < 8→B s=some f→(∀i,i < cnt c→(recAt f (recO c i)).isSome=true)→Calls Tryz.prog 16 #[v,.int .i64 (s:Int),.int .i64 (c:Int)] w fun e w'=>∃ad,e= .returned (.tuple #[.pointer (some ad),.int .i64 0])∧Nx Has w v B n F w'∧
  ∀W,Keep F w' W→(∀k,w.heap.size≤k→k < w'.heap.size→W.heap[k]?=w'.heap[k]?)→Calls Tryz.prog 67 #[.pointer (some ad)] W fun e W'=>e= .returned (.string ⟨(txtC f c).toArray⟩)∧Below W.heap.size W W'
 statesNo:∀{w v B n F} (s c:Int),T w→Has w v B n F→statesE B s c≠0→Calls Tryz.prog 16 #[v,.int .i64 s,.int .i64 c] w fun e w'=>e= .returned (.tuple #[.pointer none,.int .i64 (statesE B s c)])∧Nx Has w v B n F w'
theorem ok000:okS 0 0 0:=⟨by omega,by omega,by have:=(cnt_le (c:=0) (by omega)).1;omega⟩
theorem ok001:okS 0 0 1:=⟨by omega,by omega,by have:=cnt_cases (c:=0) (by omega);omega⟩
theorem asks_85:asksS 0 0 85=4:=by rw [asksS,if_pos ⟨by decide,by decide⟩,if_pos];right;rcases cnt_cases (c:=0) (by omega) with h | h | h | h | h | h | h | h <;> rw [show((0:Int).toNat)=0 from rfl,h.2] <;> decide
theorem at_000:atS 0 0 0=1048848:=rfl
theorem at_001:atS 0 0 1=1048896:=rfl
theorem works_any {T:World→Prop} {Has:HasT} (H:MBase T Has) (w:World) (ht:T w):Calls Tryz.prog 4 #[] w fun e w'=>e= .returned (.bool true)∧Below w.heap.size w w':=by
 have HT:=Lh (fun W (hb:Below w.heap.size w W)=>H.tb ht hb)
 have h1:=Lh (fun W (hb:Below w.heap.size w W)=>H.atYes W (HT.out W hb) ok000)
 have h2:=Lh (fun W (hb:Below w.heap.size w W)=>H.atYes W (HT.out W hb) ok001)
 have h3:=Lh (fun W (hb:Below w.heap.size w W)=>H.find 1048848 W (HT.out W hb) (by omega))
 have h4:=Lh (fun W (hb:Below w.heap.size w W)=>H.find 1048849 W (HT.out W hb) (by omega))
 have h5:=Lh (fun W (hb:Below w.heap.size w W)=>H.atNo (s:=0) (c:=0) (i:=85) W (HT.out W hb) (by rw [asks_85];decide))
 have h6:=Lh (fun W (hb:Below w.heap.size w W)=>H.atNo (s:=4) (c:=0) (i:=0) W (HT.out W hb) (by decide))
 have h7:=Lh (fun W (hb:Below w.heap.size w W)=>H.new1 W (HT.out W hb))
 rw [asks_85]at h5
 rw [show asksS 4 0 0=2 by decide]at h6
 rw [at_000]at h1
 rw [at_001]at h2
 rw [find_first]at h3
 rw [find_odd]at h4
 simp only [fndV]at h3 h4
 have hb:=Below.refl w.heap.size w
 clear ht
 go_enter Tryz.func4,Tryz.ntmps4
 go_wp2_with fail
 refine(h1.out _ hb).mono ?_
 rintro e w1 ⟨rfl,hb'⟩
 have hb:=hb.trans (hb'.mono hb.size)
 clear hb'
 go_wp2_with fail
 refine(h2.out _ hb).mono ?_
 rintro e w2 ⟨rfl,hb'⟩
 have hb:=hb.trans (hb'.mono hb.size)
 clear hb'
 go_wp2_with fail
 refine(h3.out _ hb).mono ?_
 rintro e w3 ⟨rfl,hb'⟩
 have hb:=hb.trans (hb'.mono hb.size)
 clear hb'
 have hr3:=Row.new w3 37 [.int .i64 0,.int .i64 0,.int .i64 0]
 have hb:=hb.alloc hb.size (.cells #[.int .i64 0,.int .i64 0,.int .i64 0] 37)
 go_wp2_with fail
 refine(h4.out _ hb).mono ?_
 rintro e w4 ⟨rfl,hb'⟩
 have hr4:=hr3.below hb'
 have hb:=hb.trans (hb'.mono hb.size)
 clear hb' hr3
 have hr5:=hr4.below (below1 w4 (.cells #[.int .i64 0,.int .i64 0,.int .i64 0] 37))
 have hb:=hb.alloc hb.size (.cells #[.int .i64 0,.int .i64 0,.int .i64 0] 37)
 clear hr4
 go_wp2_with fail
 refine(h5.out _ hb).mono ?_
 rintro e w5 ⟨rfl,hb'⟩
 have hr6:=hr5.below hb'
 have hb:=hb.trans (hb'.mono hb.size)
 clear hb' hr5
 go_wp2_with fail
 refine(h6.out _ hb).mono ?_
 rintro e w6 ⟨rfl,hb'⟩
 have hr7:=hr6.below hb'
 have hb:=hb.trans (hb'.mono hb.size)
 clear hb' hr6
 go_wp2_with fail
 refine(h7.out _ hb).mono ?_
 rintro e w7 ⟨v,F,rfl,hHas,hF,hb'⟩
 have hr8:=hr7.below hb'
 obtain⟨ad,rfl⟩:=H.ptr hHas
 have hlF:=hr7.lt
 have hsz6:=hb.size
 have h8:=Lh (H.putNo 0 0 0 0 0 0 (HT.out _ (hb.trans (hb'.mono hb.size))) hHas (by decide) (by decide))
 rw [show putE (fun _=>none) 0 0 0 0 0=5 by decide]at h8
 have hb:=hb.trans (hb'.mono hb.size)
 clear hr7 hHas
 go_wp2_with fail
 refine h8.out.mono ?_
 rintro e w8 ⟨rfl,F',_,hk,_⟩
 have hr9:Row w8 w3.heap.size 37 [.int .i64 0,.int .i64 0,.int .i64 0]:=hr8.same (hk.block _ hr8.lt (fun hf=>by have:=hF _ hf;omega))
 have hb:=hb.trans (hk.below (fun k hf=>Nat.le_trans hsz6 (hF k hf)) hb.size)
 have c0:w8.cell? ⟨w3.heap.size,0,none⟩=some (.int .i64 0):=hr9.cell 0
 have c1:w8.cell? ⟨w3.heap.size,1,none⟩=some (.int .i64 0):=hr9.cell 1
 have c2:w8.cell? ⟨w3.heap.size,2,none⟩=some (.int .i64 0):=hr9.cell 2
 clear hr8 hr9 hk
 go_wp2_with fail
 refine(num_any _ _).mono ?_
 rintro e wx ⟨rfl,rfl⟩
 go_wp2_with fail
 refine(num_any _ _).mono ?_
 rintro e wx ⟨rfl,rfl⟩
 go_wp2_with fail
 refine(num_any _ _).mono ?_
 rintro e wx ⟨rfl,rfl⟩
 go_wp2_with fail
 refine(num_any _ _).mono ?_
 rintro e wx ⟨rfl,rfl⟩
 go_wp2_with fail
 refine(num_any _ _).mono ?_
 rintro e wx ⟨rfl,rfl⟩
 go_wp2_with fail
 refine(num_any _ _).mono ?_
 rintro e wx ⟨rfl,rfl⟩
 go_wp2_with fail
 refine(num_any _ _).mono ?_
 rintro e wx ⟨rfl,rfl⟩
 go_wp2_with fail
 refine(num_any _ _).mono ?_
 rintro e wx ⟨rfl,rfl⟩
 go_wp2_with fail
 go_ret
 exact⟨rfl,hb⟩
theorem putB_in (f:Byts) (o:Nat) (bs:List UInt8) (k:Nat) (h:k < bs.length):putB f o bs (o+k)=bs.getD k 0:=by
 unfold putB
 rw [if_pos ⟨by omega,by omega⟩,Nat.add_sub_cancel_left]
theorem putB_in0 (f:Byts) (o:Nat) (bs:List UInt8) (h:0 < bs.length):putB f o bs o=bs.getD 0 0:=putB_in f o bs 0 h
theorem putB_out (f:Byts) (o:Nat) (bs:List UInt8) (k:Nat) (h:k < o∨o+bs.length≤k):putB f o bs k=f k:=by
 unfold putB
 rw [if_neg (by omega)]
theorem upd_same (B:Bks) (s:Nat) (x:Option Byts):upd B s x s=x:=by unfold upd;rw [if_pos rfl]
theorem upd_other (B:Bks) (s k:Nat) (x:Option Byts) (h:k≠s):upd B s x k=B k:=by unfold upd;rw [if_neg h]
theorem rec_in (f:Byts) (o:Nat) (x0 x1 x2 x3 x4 x5 x6 x7:UInt8):recAt (putB f o [x0,x1,x2,x3,x4,x5,x6,x7]) o=
  if x0.toNat≤4∧x1=0 then some (x0.toNat,x2.toNat+256*x3.toNat,(x4.toNat+256*x5.toNat)+65536*(x6.toNat+256*x7.toNat)) else none:=by
 unfold recAt le4 le2
 have h:=fun k hk=>putB_in f o [x0,x1,x2,x3,x4,x5,x6,x7] k hk
 have h0:=putB_in0 f o [x0,x1,x2,x3,x4,x5,x6,x7] (by simp)
 have h1:=h 1 (by simp)
 have h2:=h 2 (by simp)
 have h3:=h 3 (by simp)
 have h4:=h 4 (by simp)
 have h5:=h 5 (by simp)
 have h6:=h 6 (by simp)
 have h7:=h 7 (by simp)
 simp only [Nat.add_assoc,Nat.reduceAdd]
 rw [h0,h1,h2,h3,h4,h5,h6,h7]
 rfl
section
variable {T:World→Prop} {Has:HasT} (H:MBase T Has)
include H
theorem MBase.below {w w':World} {v:Value} {B:Bks} {n:Nat} {F:Nat→Prop} (h:Has w v B n F) (hb:Below w.heap.size w w'):Has w' v B n F:=H.keep h fun k hk=>hb.block _ (H.lt h k hk)
end
theorem great_in (f:Byts) (o:Nat) (x0 x1 x2 x3 x4 x5 x6 x7 x8 x9 x10 x11 x12 x13 x14 x15:UInt8):greatAt (putB f o [x0,x1,x2,x3,x4,x5,x6,x7,x8,x9,x10,x11,x12,x13,x14,x15]) o=
  if x0.toNat≤4∧x1=0∧(x4.toNat+256*x5.toNat)+65536*(x6.toNat+256*x7.toNat)≤262144∧(x8.toNat+256*x9.toNat)+65536*(x10.toNat+256*x11.toNat)≤65535∧(x12.toNat+256*x13.toNat)+65536*(x14.toNat+256*x15.toNat)=0 then
   some (x0.toNat,x2.toNat+256*x3.toNat,(x4.toNat+256*x5.toNat)+65536*(x6.toNat+256*x7.toNat),(x8.toNat+256*x9.toNat)+65536*(x10.toNat+256*x11.toNat)) else none:=by
 unfold greatAt le4 le2
 have h:=fun k hk=>putB_in f o [x0,x1,x2,x3,x4,x5,x6,x7,x8,x9,x10,x11,x12,x13,x14,x15] k hk
 have h0:=putB_in0 f o [x0,x1,x2,x3,x4,x5,x6,x7,x8,x9,x10,x11,x12,x13,x14,x15] (by simp)
 have h1:=h 1 (by simp)
 have h2:=h 2 (by simp)
 have h3:=h 3 (by simp)
 have h4:=h 4 (by simp)
 have h5:=h 5 (by simp)
 have h6:=h 6 (by simp)
 have h7:=h 7 (by simp)
 have h8:=h 8 (by simp)
 have h9:=h 9 (by simp)
 have h10:=h 10 (by simp)
 have h11:=h 11 (by simp)
 have h12:=h 12 (by simp)
 have h13:=h 13 (by simp)
 have h14:=h 14 (by simp)
 have h15:=h 15 (by simp)
 simp only [Nat.add_assoc,Nat.reduceAdd]
 rw [h0,h1,h2,h3,h4,h5,h6,h7,h8,h9,h10,h11,h12,h13,h14,h15]
 rfl
section
variable {T:World→Prop} {Has:HasT} (H:MBase T Has)
include H
end
theorem ofNat_toNat (n:Nat):(UInt8.ofNat n).toNat=n % 256:=by simp [UInt8.toNat_ofNat']
theorem rec_back (f:Byts) (o st sz no:Nat) (h1:st≤4) (h2:sz≤65535) (h3:no < 4294967296):recAt (putB f o (recB st sz no)) o=some (st,sz,no):=by
 have:=rec_in f o (UInt8.ofNat st) 0 (UInt8.ofNat sz) (UInt8.ofNat (sz / 256)) (UInt8.ofNat no) (UInt8.ofNat (no / 256)) (UInt8.ofNat (no / 65536)) (UInt8.ofNat (no / 65536 / 256))
 simp only [ofNat_toNat]at this
 rw [if_pos ⟨by omega,by first | trivial | rfl⟩]at this
 have e:recB st sz no= [UInt8.ofNat st,0,UInt8.ofNat sz,UInt8.ofNat (sz / 256),UInt8.ofNat no,UInt8.ofNat (no / 256),UInt8.ofNat (no / 65536),UInt8.ofNat (no / 65536 / 256)]:=rfl
 rw [e,this]
 congr 1
 refine Prod.ext (by simp only;omega) (Prod.ext (by simp only;omega) (by simp only;omega))
theorem great_back (f:Byts) (o st pg sz fi:Nat) (h1:st≤4) (h2:pg≤65535) (h3:sz≤262144) (h4:fi≤65535):greatAt (putB f o (greatB st pg sz fi)) o=some (st,pg,sz,fi):=by
 have:=great_in f o (UInt8.ofNat st) 0 (UInt8.ofNat pg) (UInt8.ofNat (pg / 256)) (UInt8.ofNat sz) (UInt8.ofNat (sz / 256)) (UInt8.ofNat (sz / 65536)) (UInt8.ofNat (sz / 65536 / 256)) (UInt8.ofNat fi) (UInt8.ofNat (fi / 256)) (UInt8.ofNat (fi / 65536)) (UInt8.ofNat (fi / 65536 / 256)) (UInt8.ofNat 0) (UInt8.ofNat (0 / 256)) (UInt8.ofNat (0 / 65536)) (UInt8.ofNat (0 / 65536 / 256))
 simp only [ofNat_toNat]at this
 rw [if_pos ⟨by omega,by first | trivial | rfl,by first | trivial | omega,by first | trivial | omega,by first | trivial | omega | rfl⟩]at this
 have e:greatB st pg sz fi= [UInt8.ofNat st,0,UInt8.ofNat pg,UInt8.ofNat (pg / 256),UInt8.ofNat sz,UInt8.ofNat (sz / 256),UInt8.ofNat (sz / 65536),UInt8.ofNat (sz / 65536 / 256),UInt8.ofNat fi,UInt8.ofNat (fi / 256),UInt8.ofNat (fi / 65536),UInt8.ofNat (fi / 65536 / 256),UInt8.ofNat 0,UInt8.ofNat (0 / 256),UInt8.ofNat (0 / 65536),UInt8.ofNat (0 / 65536 / 256)]:=rfl
 rw [e,this]
 congr 1
 refine Prod.ext (by simp only;omega) (Prod.ext (by simp only;omega) (Prod.ext (by simp only;omega) (by simp only;omega)))
theorem recB_len (st sz no:Nat):(recB st sz no).length=8:=rfl
theorem greatB_len (st pg sz fi:Nat):(greatB st pg sz fi).length=16:=rfl
theorem rec_out (f:Byts) (o o':Nat) (bs:List UInt8) (h:o+8≤o'∨o'+bs.length≤o):recAt (putB f o' bs) o=recAt f o:=by
 unfold recAt le4 le2
 have hk:∀k,k < 8→putB f o' bs (o+k)=f (o+k):=fun k hk=>putB_out f o' bs _ (by omega)
 have h0:=hk 0 (by omega)
 simp only [Nat.add_zero]at h0
 simp only [Nat.add_assoc,Nat.reduceAdd]
 rw [h0,hk 1 (by omega),hk 2 (by omega),hk 3 (by omega),hk 4 (by omega),hk 5 (by omega),hk 6 (by omega),hk 7 (by omega)]
theorem great_out (f:Byts) (o o':Nat) (bs:List UInt8) (h:o+16≤o'∨o'+bs.length≤o):greatAt (putB f o' bs) o=greatAt f o:=by
 unfold greatAt le4 le2
 have hk:∀k,k < 16→putB f o' bs (o+k)=f (o+k):=fun k hk=>putB_out f o' bs _ (by omega)
 have h0:=hk 0 (by omega)
 simp only [Nat.add_zero]at h0
 simp only [Nat.add_assoc,Nat.reduceAdd]
 rw [h0,hk 1 (by omega),hk 2 (by omega),hk 3 (by omega),hk 4 (by omega),hk 5 (by omega),hk 6 (by omega),hk 7 (by omega),hk 8 (by omega),hk 9 (by omega),hk 10 (by omega),hk 11 (by omega),hk 12 (by omega),hk 13 (by omega),hk 14 (by omega),hk 15 (by omega)]
theorem rec_zero (o:Nat):recAt zeroB o=some (0,0,0):=by
 unfold recAt le4 le2 zeroB
 rfl
theorem great_zero (o:Nat):greatAt zeroB o=some (0,0,0,0):=by
 unfold greatAt le4 le2 zeroB
 rfl
theorem rec_lt {c i:Nat} (hc:c < 8) (hi:i < cnt c):recO c i+8≤6144:=by
 have:=(cnt_le hc).2.1
 unfold recO
 omega
theorem rec_apart {c i c' i':Nat} (hc:c < 8) (hi:i < cnt c) (hc':c' < 8) (hi':i' < cnt c') (h:¬(c=c'∧i=i')):recO c i+8≤recO c' i'∨recO c' i'+8≤recO c i:=by
 have:=(cnt_le hc).2.1
 have:=(cnt_le hc').2.1
 unfold recO
 omega
abbrev Rw:=Nat × TypeId × List Value
section
variable {T:World→Prop} {Has:HasT} (H:MBase T Has)
structure St (Has:HasT) (W0:World) (v:Value) (B:Bks) (n:Nat) (L:List Rw) (V:World):Prop where
 has:∃F,Has V v B n F∧(∀k,F k→W0.heap.size≤k)∧∀x∈L,Row V x.1 x.2.1 x.2.2∧¬F x.1
 low:Below W0.heap.size W0 V
variable {W0 V V':World} {v:Value} {B B':Bks} {n n':Nat} {L:List Rw}
theorem St.row (h:St Has W0 v B n L V) (k:Nat) (x:Rw) (hx:L[k]?=some x):Row V x.1 x.2.1 x.2.2:=by
 obtain⟨F,_,_,h3⟩:=h.has
 exact(h3 x (List.mem_of_getElem? hx)).1
theorem St.tail {x:Rw} (h:St Has W0 v B n (x :: L) V):St Has W0 v B n L V:=by
 obtain⟨F,h1,h2,h3⟩:=h.has
 exact⟨⟨F,h1,h2,fun y hy=>h3 y (List.mem_cons_of_mem _ hy)⟩,h.low⟩
include H
theorem St.t (h:St Has W0 v B n L V) (ht:T W0):T V:=H.tb ht h.low
theorem St.ptr (h:St Has W0 v B n L V):∃ad,v= .pointer (some ad):=by
 obtain⟨F,h1,_⟩:=h.has
 exact H.ptr h1
theorem St.below (h:St Has W0 v B n L V) (hb:Below V.heap.size V V'):St Has W0 v B n L V':=by
 obtain⟨F,h1,h2,h3⟩:=h.has
 exact⟨⟨F,H.keep h1 (fun k hk=>hb.block _ (H.lt h1 k hk)),h2,fun x hx=>⟨(h3 x hx).1.below hb,(h3 x hx).2⟩⟩,below0 h.low hb⟩
theorem St.alloc (h:St Has W0 v B n L V) (t:TypeId) (cs:List Value):St Has W0 v B n ((V.heap.size,t,cs) :: L) (V.alloc (.cells cs.toArray t)):=by
 obtain⟨F,h1,h2,h3⟩:=(h.below H (below1 V (.cells cs.toArray t))).has
 obtain⟨F0,g1,g2,g3⟩:=h.has
 refine⟨⟨F0,H.keep g1 (fun k hk=>Below.heap_alloc _ _ _ (H.lt g1 k hk)),g2,fun x hx=> ?_⟩,below0 h.low (below1 _ _)⟩
 rcases List.mem_cons.1 hx with rfl | hx
 ·exact⟨Row.new V t cs,fun hf=>by have:=H.lt g1 _ hf;simp only at this;omega⟩
 ·exact⟨(g3 x hx).1.below (below1 _ _),(g3 x hx).2⟩
omit H in
theorem St.call (h:St Has W0 v B n L V) {f:Nat} {args:Array Value} {P:Ending→Prop} (hc:∀F,Has V v B n F→Calls Tryz.prog f args V fun e V'=>P e∧Nx Has V v B' n' F V'):Calls Tryz.prog f args V fun e V'=>P e∧St Has W0 v B' n' L V':=by
 obtain⟨F,h1,h2,h3⟩:=h.has
 refine(hc F h1).mono fun e V' ⟨e1,F',g1,g2,g3⟩=>⟨e1,⟨F',g1,fun k hk=> ?_,fun x hx=>⟨g2.row (h3 x hx).1 (h3 x hx).2,fun hf=> ?_⟩⟩,h.low.trans (g2.below (fun k hk=>h2 k hk) h.low.size)⟩
 ·rcases g3 k hk with h | h'
  ·exact h2 k h
  ·exact Nat.le_trans h.low.size h'
 ·rcases g3 _ hf with h' | h'
  ·exact(h3 x hx).2 h'
  ·have:=(h3 x hx).1.lt
   omega
theorem St.pure (h:St Has W0 v B n L V) {f:Nat} {args:Array Value} {P:Ending→Prop} (hc:Calls Tryz.prog f args V fun e V'=>P e∧Below V.heap.size V V'):Calls Tryz.prog f args V fun e V'=>P e∧St Has W0 v B n L V':=
 hc.mono fun _ _ ⟨e1,e2⟩=>⟨e1,h.below H e2⟩
omit H in
theorem asks_zero {s c i:Int} (h:asksS s c i=0):∃s' c' i':Nat,s=(s':Int)∧c=(c':Int)∧i=(i':Int)∧okS s' c' i':=by
 rcases asks_cases s c i with⟨_,h'⟩ | ⟨_,_,h'⟩ | ⟨_,_,_,h'⟩ | ⟨a,k,rfl,rfl,h1,h2,⟨j,rfl,h3,_⟩ | ⟨_,h'⟩⟩
 ·omega
 ·omega
 ·omega
 ·exact⟨a,k,j,rfl,rfl,rfl,h1,h2,h3⟩
 ·omega
omit H in
theorem openE_some {B:Bks} {s:Nat} {f:Byts} (h:B s=some f):openE B (s:Int)=0:=by
 unfold openE
 rw [Int.toNat_natCast,h]
 rfl
theorem St.put (h:St Has W0 v B n L V) (ht:T W0) {s:Nat} {f:Byts} (hf:B s=some f) (c i st sz:Int) (no:Nat) (hno:no < 4294967296):
  (∃c' i' st' sz':Nat,c=(c':Int)∧i=(i':Int)∧st=(st':Int)∧sz=(sz':Int)∧c' < 8∧i' < cnt c'∧st'≤4∧sz'≤65535∧Calls Tryz.prog 11 #[v,spV (s:Int) c i,rcV st sz no] V fun e V'=>e= .returned (.int .i64 0)∧St Has W0 v (upd B s (some (putB f (recO c' i') (recB st' sz' no)))) n L V')∨
  (∃E:Int,E≠0∧Calls Tryz.prog 11 #[v,spV (s:Int) c i,rcV st sz no] V fun e V'=>e= .returned (.int .i64 E)∧St Has W0 v B n L V'):=by
 by_cases ha:asksS (s:Int) c i=0
 ·obtain⟨s',c',i',e1,rfl,rfl,hok⟩:=asks_zero ha
  obtain rfl:s=s':=by omega
  by_cases hr:rightR st sz
  ·obtain⟨r1,r2,r3,r4⟩:=hr
   obtain⟨st',rfl⟩:∃k:Nat,st=(k:Int):=⟨st.toNat,by omega⟩
   obtain⟨sz',rfl⟩:∃k:Nat,sz=(k:Int):=⟨sz.toNat,by omega⟩
   exact .inl ⟨c',i',st',sz',rfl,rfl,rfl,rfl,hok.2.1,hok.2.2,by omega,by omega,h.call (fun _ hF=>H.putYes s c' i' st' sz' no (h.t H ht) hF hok (by omega) (by omega) hno hf)⟩
  ·have hE:putE B (s:Int) (c':Int) (i':Int) st sz=2:=by unfold putE;rw [if_pos (.inr hr)]
   refine .inr ⟨2,by decide,h.call (fun _ hF=> ?_)⟩
   have:=H.putNo (s:Int) (c':Int) (i':Int) st sz no (h.t H ht) hF hno (by rw [hE];decide)
   rw [hE]at this
   exact this
 ·have hE:putE B (s:Int) c i st sz≠0:=by
   unfold putE
   by_cases h2:asksS (s:Int) c i=2∨¬rightR st sz
   ·rw [if_pos h2];decide
   ·rw [if_neg h2]
    unfold getE
    rw [if_pos ha]
    exact ha
  exact .inr ⟨_,hE,h.call (fun _ hF=>H.putNo (s:Int) c i st sz no (h.t H ht) hF hno hE)⟩
theorem St.gput (h:St Has W0 v B n L V) (ht:T W0) {s:Nat} (hs:s < 4) {f:Byts} (hf:B s=some f) (i':Nat) (hi:i' < 384) (st pg sz fi:Int):
  (∃st' pg' sz' fi':Nat,st=(st':Int)∧pg=(pg':Int)∧sz=(sz':Int)∧fi=(fi':Int)∧st'≤4∧pg'≤65535∧sz'≤262144∧fi'≤65535∧Calls Tryz.prog 19 #[v,.int .i64 (s:Int),.int .i64 (i':Int),gtV st pg sz fi] V fun e V'=>e= .returned (.int .i64 0)∧St Has W0 v (upd B s (some (putB f (greatO i') (greatB st' pg' sz' fi')))) n L V')∨
  (Calls Tryz.prog 19 #[v,.int .i64 (s:Int),.int .i64 (i':Int),gtV st pg sz fi] V fun e V'=>e= .returned (.int .i64 2)∧St Has W0 v B n L V'):=by
 by_cases hr:rightG st pg sz fi
 ·have hr0:=hr
  obtain⟨r1,r2,r3,r4,r5,r6,r7,r8⟩:=hr
  obtain⟨st',rfl⟩:∃k:Nat,st=(k:Int):=⟨st.toNat,by omega⟩
  obtain⟨pg',rfl⟩:∃k:Nat,pg=(k:Int):=⟨pg.toNat,by omega⟩
  obtain⟨sz',rfl⟩:∃k:Nat,sz=(k:Int):=⟨sz.toNat,by omega⟩
  obtain⟨fi',rfl⟩:∃k:Nat,fi=(k:Int):=⟨fi.toNat,by omega⟩
  exact .inl ⟨st',pg',sz',fi',rfl,rfl,rfl,rfl,by omega,by omega,by omega,by omega,h.call (fun _ hF=>H.gputYes s i' st' pg' sz' fi' (h.t H ht) hF hs hi hr0 hf)⟩
 ·have hE:gputE B (s:Int) (i':Int) st pg sz fi=2:=by unfold gputE;rw [if_pos (.inr hr)]
  refine .inr (h.call (fun _ hF=> ?_))
  have:=H.gputNo (s:Int) (i':Int) st pg sz fi (h.t H ht) hF (by rw [hE];decide)
  rw [hE]at this
  exact this
theorem St.get (h:St Has W0 v B n L V) (ht:T W0) {s c i st sz no:Nat} {f:Byts} (hok:okS s c i) (hf:B s=some f) (hr:recAt f (recO c i)=some (st,sz,no)):Calls Tryz.prog 14 #[v,spV (s:Int) (c:Int) (i:Int)] V fun e V'=>e= .returned (.tuple #[rcV (st:Int) (sz:Int) no,.int .i64 0])∧St Has W0 v B n L V':=
 h.call (fun _ hF=>H.getYes s c i (h.t H ht) hF hok hf hr)
theorem St.gget (h:St Has W0 v B n L V) (ht:T W0) {s i st pg sz fi:Nat} {f:Byts} (hs:s < 4) (hi:i < 384) (hf:B s=some f) (hr:greatAt f (greatO i)=some (st,pg,sz,fi)):Calls Tryz.prog 15 #[v,.int .i64 (s:Int),.int .i64 (i:Int)] V fun e V'=>e= .returned (.tuple #[gtV (st:Int) (pg:Int) (sz:Int) (fi:Int),.int .i64 0])∧St Has W0 v B n L V':=
 h.call (fun _ hF=>H.ggetYes s i (h.t H ht) hF hs hi hf hr)
end
theorem flat_len (g:Nat→List Value) (m:Nat) (hg:∀i,(g i).length=m):∀n,((List.range n).flatMap g).length=n*m
 | 0=>by simp
 | n+1=>by rw [List.range_succ,List.flatMap_append,List.length_append,flat_len g m hg n,List.flatMap_cons,List.flatMap_nil,List.append_nil,hg,Nat.succ_mul]
theorem flat_get (g:Nat→List Value) (m:Nat) (hg:∀i,(g i).length=m):∀n i k,i < n→k < m→((List.range n).flatMap g)[i*m+k]?=(g i)[k]?
 | n+1,i,k,hi,hk=>by
  have hl:=flat_len g m hg n
  rw [List.range_succ,List.flatMap_append,List.flatMap_cons,List.flatMap_nil,List.append_nil]
  by_cases h:i < n
  ·have h1:i*m+k < n*m:=by
    have:=Nat.mul_le_mul_right m (show i+1≤n by omega)
    rw [Nat.succ_mul]at this
    omega
   rw [List.getElem?_append_left (by omega)]
   exact flat_get g m hg n i k h hk
  ·obtain rfl:i=n:=by omega
   rw [List.getElem?_append_right (by omega),hl,Nat.add_sub_cancel_left]
def recC (o:Option (Nat × Nat × Nat)):List Value:=match o with
 | some (st,sz,no)=> [.int .i64 (st:Int),.int .i64 (sz:Int),.int .u32 (no:Int)]
 | none=> [.int .i64 0,.int .i64 0,.int .u32 0]
def greC (o:Option (Nat × Nat × Nat × Nat)):List Value:=match o with
 | some (st,pg,sz,fi)=> [.int .i64 (st:Int),.int .i64 (pg:Int),.int .i64 (sz:Int),.int .i64 (fi:Int)]
 | none=> [.int .i64 0,.int .i64 0,.int .i64 0,.int .i64 0]
theorem recC_len (o:Option (Nat × Nat × Nat)):(recC o).length=3:=by rcases o with _ | ⟨a,b,c⟩ <;> rfl
theorem greC_len (o:Option (Nat × Nat × Nat × Nat)):(greC o).length=4:=by rcases o with _ | ⟨a,b,c,d⟩ <;> rfl
def recL (f:Byts) (c:Nat):List Value:=(List.range (cnt c)).flatMap fun i=>recC (recAt f (recO c i))
def greL (f:Byts):List Value:=(List.range 384).flatMap fun i=>greC (greatAt f (greatO i))
theorem recL_get (f:Byts) (c i st sz no:Nat) (hi:i < cnt c) (h:recAt f (recO c i)=some (st,sz,no)):(recL f c)[i*3]?=some (.int .i64 (st:Int))∧(recL f c)[i*3+1]?=some (.int .i64 (sz:Int))∧(recL f c)[i*3+2]?=some (.int .u32 (no:Int)):=by
 have:=fun k hk=>flat_get (fun i=>recC (recAt f (recO c i))) 3 (fun i=>recC_len _) (cnt c) i k hi hk
 simp only [h]at this
 exact⟨this 0 (by omega),this 1 (by omega),this 2 (by omega)⟩
theorem greL_get (f:Byts) (i st pg sz fi:Nat) (hi:i < 384) (h:greatAt f (greatO i)=some (st,pg,sz,fi)):(greL f)[i*4]?=some (.int .i64 (st:Int))∧(greL f)[i*4+1]?=some (.int .i64 (pg:Int))∧(greL f)[i*4+2]?=some (.int .i64 (sz:Int))∧(greL f)[i*4+3]?=some (.int .i64 (fi:Int)):=by
 have:=fun k hk=>flat_get (fun i=>greC (greatAt f (greatO i))) 4 (fun i=>greC_len _) 384 i k hi hk
 simp only [h]at this
 exact⟨this 0 (by omega),this 1 (by omega),this 2 (by omega),this 3 (by omega)⟩
structure Good (f:Byts):Prop where
 recs:∀c i,c < 8→i < cnt c→∃st sz no,recAt f (recO c i)=some (st,sz,no)
 gres:∀i,i < 384→∃st pg sz fi,greatAt f (greatO i)=some (st,pg,sz,fi)
structure BL (w:World) (cs:List Value) (B:Bks):Prop where
 len:cs.length=40
 one:∀u∈cs,u.oneCell'=true
 shut:∀s,s < 4→B s=none→cs[s*10]?=some (.bool false)
 opn:∀s,s < 4→∀f,B s=some f→cs[s*10]?=some (.bool true)∧(∀c,c < 8→∃A cap,cs[s*10+1+c]?=some (.slice A (cnt c) cap)∧Sees w w.heap.size A (recL f c))∧(∃G cap,cs[s*10+9]?=some (.slice G 384 cap)∧Sees w w.heap.size G (greL f))∧Good f
theorem BL.below {w w':World} {cs:List Value} {B:Bks} (h:BL w cs B) (hb:Below w.heap.size w w'):BL w' cs B:=
 ⟨h.len,h.one,h.shut,fun s hs f hf=>by
  obtain⟨h1,h2,⟨G,cap,h3,h4⟩,h5⟩:=h.opn s hs f hf
  refine⟨h1,fun c hc=> ?_,⟨G,cap,h3,(h4.below hb).more hb.size⟩,h5⟩
  obtain⟨A,cap,g1,g2⟩:=h2 c hc
  exact⟨A,cap,g1,(g2.below hb).more hb.size⟩⟩
abbrev bkV (cs:List Value):Value:= .agg cs.toArray
theorem rstate_any (z:Int) (w:World):Calls Tryz.prog 138 #[.int .i64 z] w fun e w'=>e= .returned (.bool (decide (0≤z∧z≤4)))∧w=w':=by
 by_cases h0:0≤z
 ·have e0:decide (0≤z)=true:=decide_eq_true h0
  obtain⟨c,hc⟩:∃c,decide (z≤4)=c:=⟨_,rfl⟩
  have hd:decide (0≤z∧z≤4)=c:=by
   rw [←hc]
   by_cases h:z≤4
   ·rw [decide_eq_true h,decide_eq_true ⟨h0,h⟩]
   ·rw [decide_eq_false h,decide_eq_false (fun x=>h x.2)]
  rw [hd]
  clear hd h0
  go_enter Tryz.func138,Tryz.ntmps138
  go_wp2
  go_ret
  exact⟨rfl,rfl⟩
 ·have e0:decide (0≤z)=false:=decide_eq_false h0
  rw [decide_eq_false (fun x:0≤z∧z≤4=>h0 x.1)]
  clear h0
  go_enter Tryz.func138,Tryz.ntmps138
  go_wp2
  go_ret
  exact⟨rfl,rfl⟩
theorem rright_any (st sz:Int) (no:Nat) (w:World):Calls Tryz.prog 64 #[rcV st sz no] w fun e w'=>e= .returned (.bool (decide (rightR st sz)))∧Below w.heap.size w w':=by
 have hS:=Lh (fun V=>rstate_any st V)
 have HB:=Lh (below1 w (.cells #[.int .i64 st,.int .i64 sz,.int .u32 (no:Int)] 41))
 by_cases h1:0≤st∧st≤4
 ·rw [decide_eq_true h1]at hS
  by_cases h2:0≤sz
  ·have d2:decide (0≤sz)=true:=decide_eq_true h2
   obtain⟨q,hq⟩:∃q,decide (sz≤65535)=q:=⟨_,rfl⟩
   have hd:decide (rightR st sz)=q:=by
    rw [←hq]
    by_cases h:sz≤65535
    ·rw [decide_eq_true h,decide_eq_true (show rightR st sz from⟨h1.1,h1.2,h2,h⟩)]
    ·rw [decide_eq_false h,decide_eq_false (fun x:rightR st sz=>h x.2.2.2)]
   rw [hd]
   clear hd h1 h2
   go_enter Tryz.func64,Tryz.ntmps64
   go_wp2_with fail
   refine(hS.out _).mono ?_
   rintro e w1 ⟨rfl,rfl⟩
   go_wp2_with fail
   go_ret
   exact⟨rfl,HB.out⟩
  ·have d2:decide (0≤sz)=false:=decide_eq_false h2
   rw [decide_eq_false (fun x:rightR st sz=>h2 x.2.2.1)]
   clear h1 h2
   go_enter Tryz.func64,Tryz.ntmps64
   go_wp2_with fail
   refine(hS.out _).mono ?_
   rintro e w1 ⟨rfl,rfl⟩
   go_wp2_with fail
   go_ret
   exact⟨rfl,HB.out⟩
 ·rw [decide_eq_false h1]at hS
  rw [decide_eq_false (fun x:rightR st sz=>h1 ⟨x.1,x.2.1⟩)]
  clear h1
  go_enter Tryz.func64,Tryz.ntmps64
  go_wp2_with fail
  refine(hS.out _).mono ?_
  rintro e w1 ⟨rfl,rfl⟩
  go_wp2_with fail
  go_ret
  exact⟨rfl,HB.out⟩
theorem rget_no (cs:List Value) (B:Bks) (s c i:Int) (w:World) (hL:BL w cs B) (hE:getE B s c i≠0):Calls Tryz.prog 23 #[bkV cs,spV s c i] w fun e w'=>e= .returned (.tuple #[rcV 0 0 0,.int .i64 (getE B s c i)])∧Below w.heap.size w w':=by
 have hA:=Lh (fun V=>rasks_any s c i V)
 have HP:Hid (∀V,Below (((w.alloc (.cells cs.toArray 33)).alloc (.cells #[.int .i64 s,.int .i64 c,.int .i64 i] 37)).alloc (.cells #[.int .i64 0,.int .i64 0,.int .u32 0] 41)).heap.size (((w.alloc (.cells cs.toArray 33)).alloc (.cells #[.int .i64 s,.int .i64 c,.int .i64 i] 37)).alloc (.cells #[.int .i64 0,.int .i64 0,.int .u32 0] 41)) V→
   Row V w.heap.size 33 cs∧Row V (w.heap.size+1) 37 [.int .i64 s,.int .i64 c,.int .i64 i]∧Row V (w.heap.size+1+1) 41 [.int .i64 0,.int .i64 0,.int .u32 0]∧Below w.heap.size w V):=Lh (fun V hV=>
  ⟨(((Row.new w _ cs).below (below1 _ _)).below (below1 _ _)).below hV,((Row.new_at _ 37 [.int .i64 s,.int .i64 c,.int .i64 i] (by simp)).below (below1 _ _)).below hV,(Row.new_at _ 41 [.int .i64 0,.int .i64 0,.int .u32 0] (by simp)).below hV,below0 (below3 w _ _ _) hV⟩)
 by_cases ha:asksS s c i=0
 ·obtain⟨s',c',i',rfl,rfl,rfl,hok⟩:=asks_zero ha
  have hg:getE B (s':Int) (c':Int) (i':Int)=openE B (s':Int):=by unfold getE;rw [if_neg (by rw [ha];simp)]
  have hn:B s'=none:=by
   cases h:B s' with
   | none=>rfl
   | some f=>exact absurd (hg.trans (openE_some h)) hE
  have h5:getE B (s':Int) (c':Int) (i':Int)=5:=by rw [hg];unfold openE;rw [Int.toNat_natCast,hn];rfl
  rw [h5]
  rw [ha]at hA
  have hsh:=hL.shut s' hok.1 hn
  have hs4:=hok.1
  have y0:(0:Int)≤(s':Int)∧(s':Int) < 4:=by omega
  obtain⟨y01,y02⟩:=y0
  clear hg h5 hE hL ha hok hn
  go_enter Tryz.func23,Tryz.ntmps23
  go_wp2_with fail
  refine(hA.out _).mono ?_
  rintro e w1 ⟨rfl,hb⟩
  obtain⟨p0,p1,p2,pb⟩:=HP.out _ hb
  have q0:w1.cell? ⟨w.heap.size+1,0,none⟩=some (.int .i64 (s':Int)):=p1.cell 0
  have q1:w1.cell? ⟨w.heap.size,s'*10,none⟩=some (.bool false):=(p0.cell _).trans hsh
  obtain⟨k0,k1,k2,k3⟩:=three_set p2 pb (by omega) (Value.int .i64 0) (Value.int .i64 0) (Value.int .u32 0)
  have HK:=Lh (And.intro k0 (And.intro k1 (And.intro k2 k3)))
  have f0:=p2.frozen 0
  have f1:=p2.frozen 1
  have f2:=p2.frozen 2
  have c0:w1.cell? ⟨w.heap.size+1+1,0,none⟩=some (.int .i64 0):=p2.cell 0
  have c1:w1.cell? ⟨w.heap.size+1+1,1,none⟩=some (.int .i64 0):=p2.cell 1
  have c2:w1.cell? ⟨w.heap.size+1+1,2,none⟩=some (.int .u32 0):=p2.cell 2
  clear k0 k1 k2 k3 hb
  go_wp2_with fail
  obtain⟨k0,k1,k2,k3⟩:=HK.out
  exact bodyPost_ret (v:= .tuple #[.agg #[Value.int .i64 0,.int .i64 0,.int .u32 0],.int .i64 (5)]) (by simp [results,Tryz.results23,go_sem,k0,k1,k2]) rfl ⟨rfl,k3⟩
 ·have hg:getE B s c i=asksS s c i:=by unfold getE;rw [if_pos ha]
  rw [hg]
  obtain⟨E,hEE⟩:=Nm (asksS s c i)
  rw [←hEE]at hA ha ⊢
  have e0:(E == 0)=false:=beq_eq_false_iff_ne.2 ha
  clear hg hEE hE hL
  go_enter Tryz.func23,Tryz.ntmps23
  go_wp2_with fail
  refine(hA.out _).mono ?_
  rintro e w1 ⟨rfl,hb⟩
  obtain⟨p0,p1,p2,pb⟩:=HP.out _ hb
  obtain⟨k0,k1,k2,k3⟩:=three_set p2 pb (by omega) (Value.int .i64 0) (Value.int .i64 0) (Value.int .u32 0)
  have HK:=Lh (And.intro k0 (And.intro k1 (And.intro k2 k3)))
  have f0:=p2.frozen 0
  have f1:=p2.frozen 1
  have f2:=p2.frozen 2
  have c0:w1.cell? ⟨w.heap.size+1+1,0,none⟩=some (.int .i64 0):=p2.cell 0
  have c1:w1.cell? ⟨w.heap.size+1+1,1,none⟩=some (.int .i64 0):=p2.cell 1
  have c2:w1.cell? ⟨w.heap.size+1+1,2,none⟩=some (.int .u32 0):=p2.cell 2
  clear k0 k1 k2 k3 hb
  go_wp2_with fail
  obtain⟨k0,k1,k2,k3⟩:=HK.out
  exact bodyPost_ret (v:= .tuple #[.agg #[Value.int .i64 0,.int .i64 0,.int .u32 0],.int .i64 (E)]) (by simp [results,Tryz.results23,go_sem,k0,k1,k2]) rfl ⟨rfl,k3⟩
theorem rget_yes (cs:List Value) (B:Bks) (f:Byts) (s c i st sz no:Nat) (w:World) (hL:BL w cs B) (hok:okS s c i) (hf:B s=some f) (hr:recAt f (recO c i)=some (st,sz,no)):Calls Tryz.prog 23 #[bkV cs,spV (s:Int) (c:Int) (i:Int)] w fun e w'=>e= .returned (.tuple #[rcV (st:Int) (sz:Int) no,.int .i64 0])∧Below w.heap.size w w':=by
 have ha:asksS (s:Int) (c:Int) (i:Int)=0:=by
  have h1:isB (s:Int) 4=true:=isB_yes (n:=4) hok.1
  have h2:isB (c:Int) 8=true:=isB_yes (n:=8) hok.2.1
  have h3:=hok.2.2
  rw [asksS,if_pos ⟨h1,h2⟩,if_neg (by rw [Int.toNat_natCast];omega)]
 have hA:=Lh (fun V=>rasks_any (s:Int) (c:Int) (i:Int) V)
 rw [ha]at hA
 have HP:Hid (∀V,Below (((w.alloc (.cells cs.toArray 33)).alloc (.cells #[.int .i64 (s:Int),.int .i64 (c:Int),.int .i64 (i:Int)] 37)).alloc (.cells #[.int .i64 0,.int .i64 0,.int .u32 0] 41)).heap.size (((w.alloc (.cells cs.toArray 33)).alloc (.cells #[.int .i64 (s:Int),.int .i64 (c:Int),.int .i64 (i:Int)] 37)).alloc (.cells #[.int .i64 0,.int .i64 0,.int .u32 0] 41)) V→
   Row V w.heap.size 33 cs∧Row V (w.heap.size+1) 37 [.int .i64 (s:Int),.int .i64 (c:Int),.int .i64 (i:Int)]∧Row V (w.heap.size+1+1) 41 [.int .i64 0,.int .i64 0,.int .u32 0]∧Below w.heap.size w V):=Lh (fun V hV=>
  ⟨(((Row.new w _ cs).below (below1 _ _)).below (below1 _ _)).below hV,((Row.new_at _ 37 [.int .i64 (s:Int),.int .i64 (c:Int),.int .i64 (i:Int)] (by simp)).below (below1 _ _)).below hV,(Row.new_at _ 41 [.int .i64 0,.int .i64 0,.int .u32 0] (by simp)).below hV,below0 (below3 w _ _ _) hV⟩)
 obtain⟨ho,hc8,_,_⟩:=hL.opn s hok.1 f hf
 obtain⟨A,cap,hsl,hse⟩:=hc8 c hok.2.1
 obtain⟨g0,g1,g2⟩:=recL_get f c i st sz no hok.2.2 hr
 have hne:recL f c≠[]:=fun e=>by rw [e]at g0;simp at g0
 obtain⟨ad,rfl,hadb,hcell⟩:=hse hne
 have HCELL:=Lh (fun V (hb:Below w.heap.size w V)=>(show V.cell? (ad.add (i*3))=some (.int .i64 (st:Int))∧V.cell? (ad.add (i*3+1))=some (.int .i64 (sz:Int))∧V.cell? (ad.add (i*3+2))=some (.int .u32 (no:Int)) from
  ⟨(hb.cell (by rw [add_block];exact hadb)).trans (hcell _ _ g0),(hb.cell (by rw [add_block];exact hadb)).trans (hcell _ _ g1),(hb.cell (by rw [add_block];exact hadb)).trans (hcell _ _ g2)⟩))
 have hs4:=hok.1
 have hc8':=hok.2.1
 have hi:=hok.2.2
 have hcl:=cnt_le hc8'
 obtain⟨C,hC⟩:=Nm (cnt c)
 rw [←hC]at hi hsl hcl
 have y0:(0:Int)≤(s:Int)∧(s:Int) < 4∧(0:Int)≤(c:Int)∧(c:Int) < 8∧(0:Int)≤(i:Int)∧(i:Int) < (C:Int):=by omega
 obtain⟨y01,y02,y03,y04,y05,y06⟩:=y0
 clear hL hc8 hse hne hcell g0 g1 g2 hok hr ha hC hcl
 go_enter Tryz.func23,Tryz.ntmps23
 go_wp2_with fail
 refine(hA.out _).mono ?_
 rintro e w1 ⟨rfl,hb⟩
 obtain⟨p0,p1,p2,pb⟩:=HP.out _ hb
 have q0:w1.cell? ⟨w.heap.size+1,0,none⟩=some (.int .i64 (s:Int)):=p1.cell 0
 have q1:w1.cell? ⟨w.heap.size,s*10,none⟩=some (.bool true):=(p0.cell _).trans ho
 obtain⟨k0,k1,k2,k3⟩:=three_set p2 pb (by omega) (.int .i64 (st:Int)) (.int .i64 (sz:Int)) (.int .u32 (no:Int))
 have HK:=Lh (And.intro k0 (And.intro k1 (And.intro k2 k3.drew)))
 have f0:=p2.frozen 0
 have f1:=p2.frozen 1
 have f2:=p2.frozen 2
 have c0:w1.cell? ⟨w.heap.size+1+1,0,none⟩=some (.int .i64 0):=p2.cell 0
 have c1:w1.cell? ⟨w.heap.size+1+1,1,none⟩=some (.int .i64 0):=p2.cell 1
 have c2:w1.cell? ⟨w.heap.size+1+1,2,none⟩=some (.int .u32 0):=p2.cell 2
 have HSA:Hid (∀W:World,(∀k,k≠w.heap.size+1+1→W.heap[k]?=w1.heap[k]?)→(W.cell? ⟨w.heap.size+1,0,none⟩=some (.int .i64 (s:Int))∧W.cell? ⟨w.heap.size+1,1,none⟩=some (.int .i64 (c:Int))∧W.cell? ⟨w.heap.size+1,2,none⟩=some (.int .i64 (i:Int))∧W.cell? ⟨w.heap.size,s*10+1+c,none⟩=some (.slice (some ad) C cap)∧W.cell? (ad.add (i*3))=some (.int .i64 (st:Int))∧W.cell? ⟨(ad.add (i*3)).block,(ad.add (i*3)).off+1,none⟩=some (.int .i64 (sz:Int))∧W.cell? ⟨(ad.add (i*3)).block,(ad.add (i*3)).off+2,none⟩=some (.int .u32 (no:Int)))):=Lh (fun W hW=>by
  have h1:=p1.same (hW (w.heap.size+1) (by omega))
  have h0:=p0.same (hW w.heap.size (by omega))
  obtain⟨z0,z1,z2⟩:=HCELL.out w1 pb
  have hb':∀o,W.cell? (ad.add o)=w1.cell? (ad.add o):=fun o=>World.cell?_of_block (hW _ (by rw [add_block];omega))
  have e1:(⟨(ad.add (i*3)).block,(ad.add (i*3)).off+1,none⟩:Addr)=ad.add (i*3+1):=by rw [←add_assoc];exact(Addr.add_succ' _ 0).symm
  have e2:(⟨(ad.add (i*3)).block,(ad.add (i*3)).off+2,none⟩:Addr)=ad.add (i*3+2):=by rw [←add_assoc];exact(Addr.add_succ' _ 1).symm
  rw [e1,e2]
  exact⟨h1.cell 0,h1.cell 1,h1.cell 2,(h0.cell _).trans hsl,(hb' _).trans z0,(hb' _).trans z1,(hb' _).trans z2⟩)
 have hset:∀u0 u1 u2:Value,∀k,k≠w.heap.size+1+1→((((w1.setCell ⟨w.heap.size+1+1,0,none⟩ u0).setCell ⟨w.heap.size+1+1,1,none⟩ u1).setCell ⟨w.heap.size+1+1,2,none⟩ u2)).heap[k]?=w1.heap[k]?:=fun u0 u1 u2 k hk=>(heap_set hk).trans ((heap_set hk).trans (heap_set hk))
 have HSET:=Lh hset
 clear k0 k1 k2 k3 hb p0 p1 p2 HCELL HP hset
 go_wp2_with fail
 refine wp_region_noPanic ?_
 refine wp_region_held_drew (S:=fun W=>W.cell? ⟨w.heap.size+1,0,none⟩=some (.int .i64 (s:Int))∧W.cell? ⟨w.heap.size+1,1,none⟩=some (.int .i64 (c:Int))∧W.cell? ⟨w.heap.size+1,2,none⟩=some (.int .i64 (i:Int))∧W.cell? ⟨w.heap.size,s*10+1+c,none⟩=some (.slice (some ad) C cap)∧W.cell? (ad.add (i*3))=some (.int .i64 (st:Int))∧W.cell? ⟨(ad.add (i*3)).block,(ad.add (i*3)).off+1,none⟩=some (.int .i64 (sz:Int))∧W.cell? ⟨(ad.add (i*3)).block,(ad.add (i*3)).off+2,none⟩=some (.int .u32 (no:Int))) (by kernel_rfl) (HSA.out _ (fun _ _=>rfl)) (fun hZ=> ?_)
 refine tkH 0 hZ ?_
 try simp only [Act.put]
 refine tkH 1 hZ ?_
 try simp only [Act.put]
 refine tkH 2 hZ ?_
 try simp only [Act.put]
 refine tkH 3 hZ ?_
 try simp only [Act.put]
 refine tkH 4 hZ ?_
 try simp only [Act.put]
 refine tkH 5 hZ ?_
 try simp only [Act.put]
 refine tkH 6 hZ ?_
 try simp only [Act.put]
 refine tkH 7 hZ ?_
 try simp only [Act.put]
 refine tkH 8 hZ ?_
 try simp only [Act.put]
 refine tkH 9 hZ ?_
 try simp only [Act.put]
 refine tkH 10 hZ ?_
 try simp only [Act.put]
 refine tkH 11 hZ ?_
 try simp only [Act.put]
 refine rdH 12 fun K hK=> ?_
 go_simp
 refine hK.out _ _ (HSA.out _ (HSET.out _ _ _)) (fun hZ=> ?_)
 clear hK K
 try simp only [Act.put]
 refine rdH 13 fun K hK=> ?_
 go_simp
 refine hK.out _ _ (HSA.out _ (HSET.out _ _ _)) (fun hZ=> ?_)
 clear hK K
 try simp only [Act.put]
 refine wpAnyH_done (by kernel_rfl) (NoPanic.normal ?_) _
 go_wp2_with fail
 obtain⟨k0,k1,k2,k3⟩:=HK.out
 exact bodyPost_ret (v:= .tuple #[rcV (st:Int) (sz:Int) no,.int .i64 0]) (by simp [results,Tryz.results23,go_sem,k0,k1,k2]) rfl ⟨rfl,k3⟩
end Go.Proofs.YtfcfbcjiijfjgaaGreatDoor.Me
