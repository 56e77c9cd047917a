import Derived.Test.YtfcfbcjiijfjgaaGreatDoorPAI
import Derived.Great.BuildSlice
import Derived.Shelf.RegionOpenPlain
set_option maxHeartbeats 4000000
set_option maxRecDepth 100000
namespace Go.Proofs.YtfcfbcjiijfjgaaGreatDoor
open Go.RowKit Go.Shelf Go.Maps Go.Sort
attribute [local go_sem] Oper.semAt_some
theorem poolL_left (many bm:Nat) (left:List Nat) (fv sv:Value) (o v:Nat) (hl:left.length=64) (ho:o < 64):(poolL many bm left fv sv).set (2+o) (.int .i64 (v:Int))=poolL many bm (left.set o v) fv sv:=by
 unfold poolL
 rw [show 2+o=o+1+1 by omega,List.set_cons_succ,List.set_cons_succ,List.set_append_left _ _ (by rw [List.length_map,hl];exact ho),List.map_set]
 rfl
theorem Rep.set_left {w:World} {b bm:Nat} {p:Pl} {fv sv:Value} {fb:List (List UInt8)} {gf gs:Option Nat} (h:Rep w b p bm fv sv fb gf gs) (o v:Nat) (ho:o < 64) (hok:({p with left:=p.left.set o v}:Pl).ok):
  Rep (w.setCell ⟨b,2+o,none⟩ (.int .i64 (v:Int))) b {p with left:=p.left.set o v} bm fv sv fb gf gs:=by
 obtain⟨h1,h2,h3,h4,h5⟩:=h.gf_ne
 have hk:∀k,k≠b→(w.setCell ⟨b,2+o,none⟩ (.int .i64 (v:Int))).heap[k]?=w.heap[k]?:=fun k hk=>heap_set hk
 refine⟨hok,?_,owns_same h.map (hk _ (fun e=>h.ne_map e.symm)),h.frm.keep fun g e=>hk _ (fun e2=>h1 (e2 ▸ e)),h.spr.keep fun g e=>hk _ (fun e2=>h3 (e2 ▸ e)),h.fbl,h.behind,h.fbs,h.same⟩
 have:=h.obj.set (2+o) (.int .i64 (v:Int))
 rw [poolL_left _ _ _ _ _ _ _ h.ok.l64 ho]at this
 exact this
theorem resv1_any (go gm:Nat) (o m:Int) (w:World) (ho:w.cell? ⟨go,0,none⟩=some (.int .i64 o)) (hm:w.cell? ⟨gm,0,none⟩=some (.int .i64 m)):
  Calls Tryz.prog 91 #[.pointer (some ⟨go,0,none⟩),.pointer (some ⟨gm,0,none⟩)] w fun e w'=>e= .returned (.bool (ownerB o && decide (0≤m)))∧Below w.heap.size w w':=by
 have h1:=Lh (fun w=>known_any o w)
 obtain⟨q,hq⟩:=Nm (ownerB o)
 rw [←hq]at h1 ⊢
 clear hq
 go_enter Tryz.func91,Tryz.ntmps91
 go_wp2_with fail
 refine(h1.out _).mono ?_
 rintro e w1 ⟨rfl,rfl⟩
 cases q
 ·go_wp2
  go_ret
  exact⟨rfl,Br⟩
 ·go_wp2
  go_ret
  exact⟨by simp,Br⟩
theorem resv2_any {b bm o:Nat} {p:Pl} {fv sv:Value} {fb:List (List UInt8)} {gf gs:Option Nat} {w:World} (h:Rep w b p bm fv sv fb gf gs) (gm gp go:Nat) (m:Int)
  (hm:w.cell? ⟨gm,0,none⟩=some (.int .i64 m)) (hp:w.cell? ⟨gp,0,none⟩=some (.pointer (some ⟨b,0,none⟩))) (ho:w.cell? ⟨go,0,none⟩=some (.int .i64 (o:Int))):
  Calls Tryz.prog 93 #[.pointer (some ⟨gm,0,none⟩),.pointer (some ⟨gp,0,none⟩),.pointer (some ⟨go,0,none⟩)] w fun e w'=>e= .returned (.bool (decide ((taken p.fr o:Int)≤m)))∧Below w.heap.size w w':=by
 have hh:=Lh (fun V (hb:Below w.heap.size w V)=>(show Calls Tryz.prog 94 #[.pointer (some ⟨b,0,none⟩),.int .i64 (o:Int)] V (fun e w'=>e= .returned (.int .i64 (taken p.fr o:Int))∧Below w.heap.size w w') from
  (has_any (o:=o) (h.below hb)).mono fun e w' ⟨h1,h2⟩=>⟨h1,hb.trans (h2.mono hb.size)⟩))
 have l1:=lt_of_cell hm
 have l2:=lt_of_cell hp
 have l3:=lt_of_cell ho
 obtain⟨x,hx⟩:=Nm (taken p.fr o)
 rw [←hx]at hh ⊢
 have HSA:=Lh (fun W (hB:Below w.heap.size w W)=>(show W.cell? ⟨gm,0,none⟩=some (.int .i64 m)∧W.cell? ⟨gp,0,none⟩=some (.pointer (some ⟨b,0,none⟩))∧W.cell? ⟨go,0,none⟩=some (.int .i64 (o:Int))∧Below w.heap.size w W from
  ⟨(hB.cell (p:=⟨gm,0,none⟩) l1).trans hm,(hB.cell (p:=⟨gp,0,none⟩) l2).trans hp,(hB.cell (p:=⟨go,0,none⟩) l3).trans ho,hB⟩))
 have hdr:=Lh (show Below w.heap.size w w.drew from Br.drew)
 clear hx h
 go_enter Tryz.func93,Tryz.ntmps93
 go_wp2_with fail
 go_region_held3 (fun W=>W.cell? ⟨gm,0,none⟩=some (.int .i64 m)∧W.cell? ⟨gp,0,none⟩=some (.pointer (some ⟨b,0,none⟩))∧W.cell? ⟨go,0,none⟩=some (.int .i64 (o:Int))∧Below w.heap.size w W)
  (first | exact HSA.out _ hdr.out | exact HSA.out _ (by assumption) | (go_split_ands;exact HSA.out _ (by assumption)))
  (first | (go_at_call 94;refine(hh.out _ (by go_split_ands;assumption)).mono ?_;rintro e w2 ⟨rfl,hb2⟩))
 go_wp2
 go_ret
 exact⟨rfl,hb2⟩
theorem resv3_any {b bm o:Nat} {p:Pl} {fv sv:Value} {fb:List (List UInt8)} {gf gs:Option Nat} {w:World} (h:Rep w b p bm fv sv fb gf gs) (gm gp go:Nat) (m:Int) (h64:o < 64) (hm0:0≤m) (hm1:m≤9223372036854775807)
  (hm:w.cell? ⟨gm,0,none⟩=some (.int .i64 m)) (hp:w.cell? ⟨gp,0,none⟩=some (.pointer (some ⟨b,0,none⟩))) (ho:w.cell? ⟨go,0,none⟩=some (.int .i64 (o:Int))):
  Calls Tryz.prog 95 #[.pointer (some ⟨gm,0,none⟩),.pointer (some ⟨gp,0,none⟩),.pointer (some ⟨go,0,none⟩)] w fun e w'=>e= .returned (.bool (decide (m - (resN p o:Int)≤(p.room:Int))))∧Below w.heap.size w w':=by
 have hh:=Lh (fun V (hb:Below w.heap.size w V)=>(show Calls Tryz.prog 96 #[.pointer (some ⟨b,0,none⟩),.int .i64 (o:Int)] V (fun e w'=>e= .returned (.int .i64 (resN p o:Int))∧Below w.heap.size w w') from
  (reserved_any (o:=o) (h.below hb) h64).mono fun e w' ⟨h1,h2⟩=>⟨h1,hb.trans (h2.mono hb.size)⟩))
 have hr:=Lh (fun V (hb:Below w.heap.size w V)=>(show Calls Tryz.prog 97 #[.pointer (some ⟨b,0,none⟩)] V (fun e w'=>e= .returned (.int .i64 (p.room:Int))∧Below w.heap.size w w') from
  (room_any (h.below hb)).mono fun e w' ⟨h1,k,h2⟩=>⟨h1,by rw [h2];exact below_drewN hb k⟩))
 have l1:=lt_of_cell hm
 have l2:=lt_of_cell hp
 have l3:=lt_of_cell ho
 have hw:IntKind.i64.wrap (m - (resN p o:Int))=m - (resN p o:Int):=by
  have:=taken_le p h.ok o
  have:=left_le p h.ok o
  have:resN p o≤32768:=by unfold resN;omega
  exact wrapI _ (by omega) (by omega)
 obtain⟨x,hx⟩:=Nm (resN p o)
 rw [←hx]at hh hw ⊢
 obtain⟨y,hy⟩:=Nm (p.room)
 rw [←hy]at hr ⊢
 have HSA:=Lh (fun W (hB:Below w.heap.size w W)=>(show W.cell? ⟨gm,0,none⟩=some (.int .i64 m)∧W.cell? ⟨gp,0,none⟩=some (.pointer (some ⟨b,0,none⟩))∧W.cell? ⟨go,0,none⟩=some (.int .i64 (o:Int))∧Below w.heap.size w W from
  ⟨(hB.cell (p:=⟨gm,0,none⟩) l1).trans hm,(hB.cell (p:=⟨gp,0,none⟩) l2).trans hp,(hB.cell (p:=⟨go,0,none⟩) l3).trans ho,hB⟩))
 have hdr:=Lh (show Below w.heap.size w w.drew from Br.drew)
 clear hx hy h
 go_enter Tryz.func95,Tryz.ntmps95
 go_wp2_with fail
 go_region_held3 (fun W=>W.cell? ⟨gm,0,none⟩=some (.int .i64 m)∧W.cell? ⟨gp,0,none⟩=some (.pointer (some ⟨b,0,none⟩))∧W.cell? ⟨go,0,none⟩=some (.int .i64 (o:Int))∧Below w.heap.size w W)
  (first | exact HSA.out _ hdr.out | exact HSA.out _ (by assumption) | (go_split_ands;exact HSA.out _ (by assumption)))
  (first | (go_at_call 96;refine(hh.out _ (by go_split_ands;assumption)).mono ?_;rintro e w2 ⟨rfl,hb2⟩) | (go_at_call 97;refine(hr.out _ (by go_split_ands;assumption)).mono ?_;rintro e w3 ⟨rfl,hb3⟩))
 all_goals
  go_wp2
  go_ret
  exact⟨rfl,by assumption⟩
abbrev bx (n:Nat):Value:= .pointer (some ⟨n,0,none⟩)
def resvL (v:Value) (s:Nat) (a1 a2 a3 a4:Bool):List Ask:=
 [⟨90,#[v],#[],1,a1⟩,⟨91,#[],#[bx (s+1),bx (s+2)],2,a2⟩,⟨93,#[],#[bx (s+2),bx s,bx (s+1)],172,a3⟩,⟨95,#[],#[bx (s+2),bx s,bx (s+1)],170,a4⟩]
def resvC (w:World) (v:Value) (o m:Int):World:=((w.alloc (.cells #[v] 94)).alloc (.cells #[.int .i64 o] 3)).alloc (.cells #[.int .i64 m] 3)
def resvW (w:World) (v:Value) (o m:Int):World:=(resvC w v o m).alloc (.cells (askCells (resvL v w.heap.size true true true true)).toArray 154)
theorem resvW_cells (w:World) (v:Value) (o m:Int):(resvW w v o m).cell? ⟨w.heap.size,0,none⟩=some v∧(resvW w v o m).cell? ⟨w.heap.size+1,0,none⟩=some (.int .i64 o)∧(resvW w v o m).cell? ⟨w.heap.size+2,0,none⟩=some (.int .i64 m)∧
  Below w.heap.size w (resvW w v o m)∧(resvW w v o m).heap.size=w.heap.size+4∧Row (resvW w v o m) (w.heap.size+3) 154 (askCells (resvL v w.heap.size true true true true)):=by
 have h0:(resvC w v o m).heap.size=w.heap.size+3:=by simp [resvC]
 refine⟨?_,?_,?_,?_,by simp [resvW,h0],?_⟩
 ·refine(World.cell?_alloc_lt _ _ _ (by rw [h0];simp)).trans ?_
  exact(World.cell?_alloc_lt _ _ _ (by simp;omega)).trans ((World.cell?_alloc_lt _ _ _ (by simp)).trans (cell_alloc_new _ _ _ _))
 ·refine(World.cell?_alloc_lt _ _ _ (by rw [h0];simp)).trans ?_
  refine(World.cell?_alloc_lt _ _ _ (by simp)).trans ?_
  exact cell_new_at _ _ _ _ (by simp)
 ·refine(World.cell?_alloc_lt _ _ _ (by rw [h0];simp)).trans ?_
  exact cell_new_at _ _ _ _ (by simp)
 ·exact(below3 _ _ _ _).alloc (by simp;omega) _
 ·exact Row.new_at _ _ _ h0
theorem resv_asked {b bm:Nat} {p:Pl} {fv sv:Value} {fb:List (List UInt8)} {gf gs:Option Nat} {w:World} (h:Rep w b p bm fv sv fb gf gs) (o m:Int) (hm1:m≤9223372036854775807):
  Calls Tryz.prog 76 #[.slice (some ⟨w.heap.size+3,0,none⟩) 4 4] (resvW w (bx b) o m) fun e w'=>e= .returned (.int .i64 (reserveE p o m:Int))∧Below (w.heap.size+4) (resvW w (bx b) o m) w':=by
 obtain⟨h1,h2,h3,h4,h5,h6⟩:=resvW_cells w (bx b) o m
 have hR:=h.below h4
 obtain⟨W,hW⟩:=Nm (resvW w (bx b) o m)
 rw [←hW]at h1 h2 h3 h4 h5 h6 hR ⊢
 obtain⟨s,hs⟩:=Nm (w.heap.size)
 rw [←hs]at h1 h2 h3 h5 h6 ⊢
 obtain⟨a2,ha2⟩:=Nm ((ownerB o && decide (0≤m)))
 obtain⟨a3,ha3⟩:=Nm (decide ((taken p.fr o.toNat:Int)≤m))
 obtain⟨a4,ha4⟩:=Nm (decide (m - (resN p o.toNat:Int)≤(p.room:Int)))
 have hE:askE (resvL (bx b) s true a2 a3 a4)=(reserveE p o m:Int):=by
  unfold reserveE
  have e2:(¬(ownerB o=true∧0≤m))↔a2=false:=by rw [ha2];cases ownerB o <;> simp
  have e3:(m < (taken p.fr o.toNat:Int))↔a3=false:=by rw [ha3];simp
  have e4:(¬(m - (resN p o.toNat:Int)≤(p.room:Int)))↔a4=false:=by rw [ha4];simp
  simp only [e2,e3,e4]
  cases a2 <;> cases a3 <;> cases a4 <;> rfl
 rw [←hE,←h5]
 refine(asked_any (resvL (bx b) s true a2 a3 a4) (s+3) 4 4 W rfl (by omega) h6 ?_)
 intro k hk hall
 have k2:∀V,Below W.heap.size W V→V.cell? ⟨s,0,none⟩=some (bx b)∧V.cell? ⟨s+1,0,none⟩=some (.int .i64 o)∧V.cell? ⟨s+2,0,none⟩=some (.int .i64 m)∧Rep V b p bm fv sv fb gf gs:=fun V hV=>
  ⟨(hV.cell (p:=⟨s,0,none⟩) (by show s < W.heap.size;omega)).trans h1,(hV.cell (p:=⟨s+1,0,none⟩) (by show s+1 < W.heap.size;omega)).trans h2,(hV.cell (p:=⟨s+2,0,none⟩) (by show s+2 < W.heap.size;omega)).trans h3,hR.below hV⟩
 rcases k with _ | _ | _ | _ | k
 ·refine⟨enters_of Tryz.func90 (by kernel_rfl) rfl,fun V hV=> ?_⟩
  exact(there_map b bm V (k2 V hV).2.2.2.c1).mono fun e w' ⟨e1,e2⟩=>⟨e1,e2 ▸ Br⟩
 ·refine⟨enters_of Tryz.func91 (by kernel_rfl) rfl,fun V hV=> ?_⟩
  have:=resv1_any (s+1) (s+2) o m V (k2 V hV).2.1 (k2 V hV).2.2.1
  rw [←ha2]at this
  exact this
 ·have t2:a2=true:=hall 1 (by simp [resvL]) (by omega)
  rw [ha2,Bool.and_eq_true,decide_eq_true_eq]at t2
  have tb:=t2.1
  simp only [ownerB,Bool.and_eq_true,decide_eq_true_eq]at tb
  obtain⟨n,rfl⟩:∃n:Nat,o=n:=⟨o.toNat,by omega⟩
  refine⟨enters_of Tryz.func93 (by kernel_rfl) rfl,fun V hV=> ?_⟩
  have:=resv2_any (k2 V hV).2.2.2 (s+2) s (s+1) m (k2 V hV).2.2.1 (k2 V hV).1 (k2 V hV).2.1
  rw [Int.toNat_natCast]at ha3
  rw [←ha3]at this
  exact this
 ·have t2:a2=true:=hall 1 (by simp [resvL]) (by omega)
  rw [ha2,Bool.and_eq_true,decide_eq_true_eq]at t2
  have tb:=t2.1
  simp only [ownerB,Bool.and_eq_true,decide_eq_true_eq]at tb
  obtain⟨n,rfl⟩:∃n:Nat,o=n:=⟨o.toNat,by omega⟩
  refine⟨enters_of Tryz.func95 (by kernel_rfl) rfl,fun V hV=> ?_⟩
  have:=resv3_any (k2 V hV).2.2.2 (s+2) s (s+1) m (by omega) t2.2 hm1 (k2 V hV).2.2.1 (k2 V hV).1 (k2 V hV).2.1
  rw [Int.toNat_natCast]at ha4
  rw [←ha4]at this
  exact this
 ·simp [resvL]at hk
  omega
def Next (w:World) (b:Nat) (p:Pl) (F:Nat→Prop) (w':World):Prop:=∃F',Has w' b p F'∧Keep F w w'∧∀k,F' k→F k∨w.heap.size≤k
theorem Next.same {w w':World} {b:Nat} {p:Pl} {F:Nat→Prop} (h:Has w b p F) (hb:Below w.heap.size w w'):Next w b p F w':=⟨F,h.below hb,Keep.of_below hb,fun _ h=> .inl h⟩
theorem reserve_no {b:Nat} {p:Pl} {F:Nat→Prop} {w:World} (h:Has w b p F) (o m:Int) (hm1:m≤9223372036854775807) (hE:reserveE p o m≠0):
  Calls Tryz.prog 42 #[bx b,.int .i64 o,.int .i64 m] w fun e w'=>e= .returned (.int .i64 (reserveE p o m:Int))∧Next w b (reserveP p o m) F w':=by
 have hN:=Lh (fun w' (hb:Below w.heap.size w w')=>(show Next w b (reserveP p o m) F w' from by
  unfold reserveP
  rw [if_neg hE]
  exact Next.same h hb))
 obtain⟨bm,fv,sv,fb,gf,gs,hr,rfl⟩:=h
 have hb0:=(resvW_cells w (bx b) o m).2.2.2.1
 have h1:=Lh ((resv_asked hr o m hm1).mono fun e w' ⟨e1,e2⟩=>(show e=Ending.returned (Value.int .i64 (reserveE p o m:Int))∧Below w.heap.size w w' from⟨e1,hb0.trans (e2.mono (by omega))⟩))
 obtain⟨E,hE2⟩:=Nm (reserveE p o m)
 rw [←hE2]at h1 hE ⊢
 have e0:(((E:Int)) == 0)=false:=by rw [beq_eq_false_iff_ne];omega
 have e1:¬((E:Int)=0):=by omega
 clear hE2 hr hb0 hE
 go_enter Tryz.func42,Tryz.ntmps42
 go_wp2_with fail
 refine wp_scope_jump 1 fun R hR hJm=> ?_
 go_wp2_with fail
 refine(h1.out).mono ?_
 rintro e w1 ⟨rfl,hb⟩
 go_wp2_with fail
 refine wp_goto (hJm.out _ _ _ _ _ rfl ?_)
 go_wp2_with fail
 refine hR.out _ _ _ _ (by simp) ?_
 go_ret
 exact⟨rfl,hN.out _ hb⟩
theorem reserve_yes {b:Nat} {p:Pl} {F:Nat→Prop} {w:World} (h:Has w b p F) (o m:Nat) (hm1:m≤9223372036854775807) (hE:reserveE p o m=0):
  Calls Tryz.prog 42 #[bx b,.int .i64 (o:Int),.int .i64 (m:Int)] w fun e w'=>e= .returned (.int .i64 0)∧Next w b (reserveP p o m) F w':=by
 have hok:=reserve_ok h.ok o m
 have hP:reserveP p o m={p with left:=p.left.set o (m - taken p.fr o)}:=by unfold reserveP;rw [if_pos hE];rfl
 rw [hP]at hok ⊢
 obtain⟨bm,fv,sv,fb,gf,gs,hr,rfl⟩:=h
 have ho:o < 64∧taken p.fr o≤m:=by
  unfold reserveE at hE
  split at hE
  ·cases hE
  split at hE
  ·cases hE
  next h1 h2=>
   have h1':=Classical.not_not.1 h1
   simp only [ownerB,Bool.and_eq_true,decide_eq_true_eq]at h1'
   exact⟨by omega,by simpa using h2⟩
 obtain⟨c1,c2,c3,hb0,hs0,_⟩:=resvW_cells w (bx b) (o:Int) (m:Int)
 have h1:=Lh ((resv_asked hr (o:Int) (m:Int) (by omega)).mono fun e w' ⟨e1,e2⟩=>(show e=Ending.returned (Value.int .i64 (reserveE p o m:Int))∧w'.cell? ⟨w.heap.size,0,none⟩=some (bx b)∧w'.cell? ⟨w.heap.size+1,0,none⟩=some (Value.int .i64 (o:Int))∧w'.cell? ⟨w.heap.size+1+1,0,none⟩=some (Value.int .i64 (m:Int))∧Below w.heap.size w w'∧w.heap.size+3 < w'.heap.size from
  ⟨e1,(e2.cell (p:=⟨w.heap.size,0,none⟩) (by show w.heap.size < _;omega)).trans c1,(e2.cell (p:=⟨w.heap.size+1,0,none⟩) (by show w.heap.size+1 < _;omega)).trans c2,(e2.cell (p:=⟨w.heap.size+1+1,0,none⟩) (by show w.heap.size+1+1 < _;omega)).trans c3,hb0.trans (e2.mono (by omega)),by have:=e2.size;omega⟩))
 rw [hE]at h1
 obtain⟨n,hn⟩:=Nm (taken p.fr o)
 have HH:=Lh (fun(w1:World) (hb1:Below w.heap.size w w1)=>(show ∃x,w1.cell? ⟨b,2+o,none⟩=some (.int .i64 x)∧w1.frozen? ⟨b,2+o,none⟩=false∧
   (∀V,Below w1.heap.size w1 V→Calls Tryz.prog 94 #[.pointer (some ⟨b,0,none⟩),.int .i64 (o:Int)] V fun e V'=>e= .returned (.int .i64 (n:Int))∧Below w1.heap.size w1 V'∧V'.cell? ⟨b,2+o,none⟩=some (.int .i64 x)∧V'.frozen? ⟨b,2+o,none⟩=false)∧
   (∀V,Below w1.heap.size w1 V→Next w b {p with left:=p.left.set o (m - n)} (blocks b bm gf gs) (V.setCell ⟨b,2+o,none⟩ (.int .i64 ((m - n:Nat):Int)))) from by
  have hr1:=hr.below hb1
  refine⟨_,hr1.cl ho.1,hr1.obj.frozen _,fun V hV=> ?_,fun V hV=> ?_⟩
  ·rw [hn]
   exact(has_any (o:=o) (hr1.below hV)).mono fun e V' ⟨e1,e2⟩=>by
    have hV':=hV.trans (e2.mono hV.size)
    exact⟨e1,hV',(hr1.below hV').cl ho.1,(hr1.below hV').obj.frozen _⟩
  ·have hB:=hb1.trans (hV.mono hb1.size)
   rw [hn]
   refine⟨_,⟨_,_,_,_,_,_,(hr1.below hV).set_left o (m - taken p.fr o) ho.1 hok,rfl⟩,(Keep.of_below hB).set _ (.inl (.inl rfl)),fun _ h=> .inl h⟩))
 have hbl:=hr.obj.lt
 have hw:IntKind.i64.wrap ((m:Int) - (n:Int))=((m - n:Nat):Int):=by
  rw [wrapI _ (by omega) (by omega)]
  have:=ho.2
  omega
 have h64:=ho.1
 obtain⟨r,hr0⟩:=Nm (m - n)
 rw [←hr0]at HH hw
 rw [hn]at hr0
 rw [←hr0]
 clear hr0 hP hok hr ho hn hE c1 c2 c3 hb0 hs0
 go_enter Tryz.func42,Tryz.ntmps42
 go_wp2_with fail
 refine wp_scope_jump 1 fun R hR hJm=> ?_
 go_wp2_with fail
 refine(h1.out).mono ?_
 rintro e w1 ⟨rfl,d1,d2,d3,hb,hs⟩
 obtain⟨x,hx1,hx2,hx3,hx4⟩:=HH.out w1 hb
 have h3:=Lh hx3
 have hN:=Lh hx4
 have HSA:=Lh (fun W (hB:Keep (· =b) w1 W)=>(show W.cell? ⟨w.heap.size,0,none⟩=some (bx b)∧W.cell? ⟨w.heap.size+1,0,none⟩=some (.int .i64 (o:Int))∧W.cell? ⟨w.heap.size+1+1,0,none⟩=some (.int .i64 (m:Int))∧Keep (· =b) w1 W from
  ⟨(hB.cell (p:=⟨w.heap.size,0,none⟩) (by show w.heap.size < _;omega) (by show w.heap.size≠b;omega)).trans d1,(hB.cell (p:=⟨w.heap.size+1,0,none⟩) (by show w.heap.size+1 < _;omega) (by show w.heap.size+1≠b;omega)).trans d2,(hB.cell (p:=⟨w.heap.size+1+1,0,none⟩) (by show w.heap.size+1+1 < _;omega) (by show w.heap.size+1+1≠b;omega)).trans d3,hB⟩))
 have hdr:=Lh (show Below w1.heap.size w1 w1.drew from Br.drew)
 have hST:=Lh (fun(W:World) (v:Value) (hB:Below w1.heap.size w1 W)=>(show Keep (· =b) w1 (W.setCell ⟨b,2+o,none⟩ v) from(Keep.of_below hB).set _ (.inl rfl)))
 have i0:(0:Int)≤(o:Int):=by omega
 have i1:(o:Int) < 64:=by omega
 clear h1 hx3 hx4 HH hb
 go_wp2_with fail
 go_region_held3 (fun W=>W.cell? ⟨w.heap.size,0,none⟩=some (bx b)∧W.cell? ⟨w.heap.size+1,0,none⟩=some (.int .i64 (o:Int))∧W.cell? ⟨w.heap.size+1+1,0,none⟩=some (.int .i64 (m:Int))∧Keep (· =b) w1 W)
  (first | exact HSA.out _ (Keep.of_below hdr.out) | exact HSA.out _ (Keep.of_below (by assumption)) | exact HSA.out _ (hST.out _ _ (by assumption)))
  (first | (go_at_call 94;refine(h3.out _ (by first | exact hdr.out | assumption)).mono ?_;rintro e w2 ⟨rfl,hb2,c2,f2⟩))
 all_goals
  go_wp2_with fail
  refine hR.out _ _ _ _ (by simp) ?_
  go_ret
  exact⟨rfl,hN.out _ (by assumption)⟩
end Go.Proofs.YtfcfbcjiijfjgaaGreatDoor
namespace Go.Proofs.YtfcfbcjiijfjgaaGreatDoor
open Go.RowKit Go.Shelf Go.Maps Go.Sort
def isFree (fr:List Fr) (i:Nat):Bool:=frameO ⟨fr,[]⟩ i == none
def freeL (fr:List Fr) (n:Nat):List Nat:=(List.range n).filter (isFree fr)
theorem spare_eq (fr:List Fr) (n:Nat):spareOf fr n=(freeL fr n).reverse:=rfl
theorem isFree_iff {fr:List Fr} {i:Nat} (hi:i < fr.length):isFree fr i=true↔fr[i]?=some none:=by
 unfold isFree frameO
 rw [List.getElem?_eq_getElem hi]
 simp
theorem not_free {fr:List Fr} {i:Nat} (hi:i < fr.length):isFree fr i=false↔∃x,fr[i]?=some (some x):=by
 unfold isFree frameO
 rw [List.getElem?_eq_getElem hi]
 cases h:fr[i] <;> simp
theorem free1_of:∀(fr:List Fr) (i:Nat),fr[i]?=some none→(∀j,j < i→∃x,fr[j]?=some (some x))→free1 fr=some i
 | [],i,h,_=>by simp at h
 | none :: r,0,_,_=>rfl
 | none :: r,i+1,_,h=>by
  obtain⟨x,hx⟩:=h 0 (by omega)
  simp at hx
 | some y :: r,0,h,_=>by simp at h
 | some y :: r,i+1,h,h2=>by
  rw [free1,free1_of r i (by simpa using h) (fun j hj=>by simpa using h2 (j+1) (by omega))]
  rfl
theorem freeL_mem {fr:List Fr} {n i:Nat}:i∈freeL fr n↔i < n∧isFree fr i=true:=by simp [freeL]
theorem freeL_sorted (fr:List Fr) (n:Nat):(freeL fr n).Pairwise (· < ·):=List.Pairwise.filter _ List.pairwise_lt_range
theorem isFree_set {fr:List Fr} {i j:Nat} (x:Fr) (hi:i < fr.length):isFree (fr.set i x) j=if j=i then x == none else isFree fr j:=by
 unfold isFree frameO
 by_cases h:j=i
 ·subst h
  rw [List.getElem?_set_self hi,if_pos rfl]
  rfl
 ·rw [List.getElem?_set_ne (fun e=>h e.symm),if_neg h]
theorem least_new_free {fr:List Fr} {n:Nat} (h0:freeL fr n= []) (hb:∀i,n≤i→frameO ⟨fr,[]⟩ i=none) (hn:n < fr.length):free1 fr=some n:=by
 refine free1_of fr n ?_ fun j hj=> ?_
 ·refine(isFree_iff hn).1 ?_
  unfold isFree
  rw [hb n Lr]
  rfl
 ·refine(not_free (by omega)).1 ?_
  cases h:isFree fr j
  ·rfl
  ·have:=freeL_mem.2 ⟨hj,h⟩
   rw [h0]at this
   simp at this
theorem used_all {fr:List Fr} {n:Nat} (h0:freeL fr n= []) (hn:n=fr.length):used fr=fr.length:=by
 unfold used
 rw [List.countP_eq_length]
 intro x hx
 obtain⟨i,hi,rfl⟩:=List.getElem_of_mem hx
 cases h:fr[i] with
 | some y=>rfl
 | none=>
  have:=(freeL_mem (n:=n)).2 ⟨by omega,(isFree_iff hi).2 (by rw [List.getElem?_eq_getElem hi,h])⟩
  rw [h0]at this
  simp at this
theorem freeL_take_new {fr:List Fr} {n:Nat} (h0:freeL fr n= []) (hn:n < fr.length) (x:Nat × List UInt8):freeL (fr.set n (some x)) (n+1)= []:=by
 refine List.eq_nil_iff_forall_not_mem.2 fun i hi=> ?_
 obtain⟨h1,h2⟩:=freeL_mem.1 hi
 rw [isFree_set _ hn]at h2
 split at h2
 ·cases h2
 ·have:=freeL_mem.2 ⟨show i < n by omega,h2⟩
  rw [h0]at this
  simp at this
theorem least_old_free {fr:List Fr} {n i:Nat} {r:List Nat} (h0:freeL fr n=i :: r) (hn:n≤fr.length):i < n∧free1 fr=some i:=by
 have hm:i∈freeL fr n:=by rw [h0];simp
 obtain⟨h1,h2⟩:=freeL_mem.1 hm
 refine⟨h1,free1_of fr i ((isFree_iff (by omega)).1 h2) fun j hj=>(not_free (by omega)).1 ?_⟩
 cases h:isFree fr j
 ·rfl
 ·have h3:=freeL_mem.2 ⟨show j < n by omega,h⟩
  have hs:=freeL_sorted fr n
  rw [h0]at h3 hs
  rcases List.mem_cons.1 h3 with h4 | h4
  ·omega
  ·have:=(List.pairwise_cons.1 hs).1 j h4
   omega
theorem freeL_take_old {fr:List Fr} {n i:Nat} {r:List Nat} (h0:freeL fr n=i :: r) (hn:n≤fr.length) (x:Nat × List UInt8):freeL (fr.set i (some x)) n=r:=by
 have hi:=(least_old_free h0 hn).1
 have hs:=freeL_sorted fr n
 rw [h0]at hs
 have hni:∀j∈r,j≠i:=fun j hj e=>by have:=(List.pairwise_cons.1 hs).1 j hj;omega
 have h1:freeL (fr.set i (some x)) n=(freeL fr n).filter (fun j=>decide (j≠i)):=by
  unfold freeL
  rw [List.filter_filter]
  refine List.filter_congr fun j _=> ?_
  rw [isFree_set _ (by omega)]
  by_cases h:j=i <;> simp [h]
 rw [h1,h0,List.filter_cons_of_neg (by simp),List.filter_eq_self.2 fun j hj=>by simpa using hni j hj]
theorem freeL_give {fr:List Fr} {n i:Nat} (hi:i < n) (hn:n≤fr.length) (hf:isFree fr i=false):
  freeL (fr.set i none) n=(freeL fr n).filter (fun j=>decide (j < i)) ++ i :: (freeL fr n).filter (fun j=>decide (i < j)):=by
 have h1:∀m,m≤n→freeL (fr.set i none) m=if i < m then(freeL fr m).filter (fun j=>decide (j < i)) ++ i :: (freeL fr m).filter (fun j=>decide (i < j)) else freeL fr m:=by
  intro m
  induction m with
  | zero=>intro _;rfl
  | succ m ih=>
   intro hm
   have hs:∀g:List Fr,freeL g (m+1)=freeL g m ++ (if isFree g m then [m] else []):=fun g=>by
    unfold freeL
    rw [List.range_succ,List.filter_append]
    congr 1
    cases h:isFree g m <;> simp [h]
   rw [hs,hs,ih (by omega),isFree_set _ (by omega)]
   by_cases h2:i < m
   ·simp only [if_pos h2,if_pos (show i < m+1 by omega),if_neg (show ¬m=i by omega)]
    cases h:isFree fr m
    ·simp
    ·have e1:List.filter (fun j=>decide (j < i)) [m]= []:=by simp;omega
     have e2:List.filter (fun j=>decide (i < j)) [m]= [m]:=by simp [h2]
     simp only [if_true,List.filter_append,e1,e2]
     simp
   ·by_cases h3:m=i
    ·subst h3
     have ha:(freeL fr m).filter (fun j=>decide (j < m))=freeL fr m:=List.filter_eq_self.2 fun j hj=>by simpa using(freeL_mem.1 hj).1
     have hb:(freeL fr m).filter (fun j=>decide (m < j))= []:=List.filter_eq_nil_iff.2 fun j hj=>by have:=(freeL_mem.1 hj).1;simp;omega
     simp [hf,ha,hb]
    ·simp only [if_neg h2,if_neg h3,if_neg (show ¬i < m+1 by omega)]
 rw [h1 n Lr,if_pos hi]
end Go.Proofs.YtfcfbcjiijfjgaaGreatDoor
namespace Go.Proofs.YtfcfbcjiijfjgaaGreatDoor
open Go.RowKit Go.Shelf Go.Maps Go.Sort
attribute [local go_sem] Oper.semAt_some
structure Mid (w:World) (b:Nat) (p:Pl) (bm:Nat) (fv sv:Value) (fb:List (List UInt8)) (sp:List Nat) (gf gs:Option Nat):Prop where
 obj:Row w b 161 (poolL p.fr.length bm p.left fv sv)
 map:w.ownsMap Tryz.prog 3 (plainElem Tryz.prog 3) bm 16384 (mapD (owns p.fr))
 frm:Own w 308 256 fv fb.length (fl fb) gf
 spr:Own w 3 1 sv sp.length (sp.map iv) gs
def LeastP (w:World) (b:Nat) (p:Pl) (bm:Nat) (gf gs:Option Nat) (i:Nat) (fb:List (List UInt8)) (sp:List Nat) (e:Ending) (w':World):Prop:=
 e= .returned (.int .i64 (i:Int))∧∃fv sv gf' gs',Mid w' b p bm fv sv fb sp gf' gs'∧Keep (blocks b bm gf gs) w w'∧∀k,blocks b bm gf' gs' k→blocks b bm gf gs k∨w.heap.size≤k
theorem fl_len:∀(fb:List (List UInt8)),(∀bs∈fb,bs.length=256)→(fl fb).length=fb.length*256
 | [],_=>rfl
 | bs :: r,h=>by
  have h1:=fl_len r fun x hx=>h x (by simp [hx])
  have h2:=h bs (by simp)
  simp only [fl,List.flatMap_cons,List.length_append,List.length_map,h2,List.length_cons]at h1 ⊢
  omega
theorem zero_cells:Tryz.zeroCells308=(zero256.map bv).toArray:=by kernel_rfl
theorem space_info:(Tryz.prog.info? 308).map (fun i=>(i.zero,i.size,i.bytes))=some (some (.agg (zero256.map bv).toArray),256,256):=by kernel_rfl
theorem wp_buildSlice_eq {P:Program} {o:Oper} {a:Act} {w:World} {K:Act→World→Prop} {Q:Exit→Act→World→Prop} (t:TypeId) (len:Nat) (parts:Array (Nat × Operand)) (ho:o.op= .buildSlice t len parts)
  (vs:Array (Nat × Value)) (hv:(parts.map fun(i,x)=>(i,a.eval x))=vs) (v:Value) (w':World) (hr:(Instr.buildSlice t len vs).run P w= .ok v w') (h:K (a.put o.dst v) w'):o.wp P a w K Q:=by
 unfold Oper.wp execOp
 simp only [ho,Sem.run_bind,hv,hr,Result.andThen_ok]
 exact h
theorem space_slice (W:World):(Instr.buildSlice 159 1 #[(0,.agg Tryz.zeroCells308)]).run Tryz.prog W= .ok (.slice (some ⟨W.heap.size,0,none⟩) 1 1) (W.alloc (.cells Tryz.zeroCells308 308)):=by
 obtain⟨i0,hi,hz0,hz1,hz2⟩:=info_parts space_info
 refine run_buildSlice W 159 308 1 _ _ i0 _ Tryz.underlying159 hi hz0 (by rw [hz1];decide) (by rw [hz1];decide) ?_
 rw [hz1]
 kernel_rfl
theorem poolL_fv (many bm:Nat) (left:List Nat) (fv sv fv':Value) (hl:left.length=64):(poolL many bm left fv sv).set 66 fv'=poolL many bm left fv' sv:=by
 unfold poolL
 rw [List.set_cons_succ,List.set_cons_succ,List.set_append_right _ _ (by rw [List.length_map,hl];decide),List.length_map,hl]
 rfl
theorem poolL_sv (many bm:Nat) (left:List Nat) (fv sv sv':Value) (hl:left.length=64):(poolL many bm left fv sv).set 67 sv'=poolL many bm left fv sv':=by
 unfold poolL
 rw [List.set_cons_succ,List.set_cons_succ,List.set_append_right _ _ (by rw [List.length_map,hl];decide),List.length_map,hl]
 rfl
theorem zero_one (v:Value) (h:v∈zero256.map bv):v.oneCell'=true:=by
 obtain⟨x,_,rfl⟩:=List.mem_map.1 h
 rfl
theorem least_new {b bm:Nat} {p:Pl} {fv sv:Value} {fb:List (List UInt8)} {gf gs:Option Nat} {w:World} (h:Rep w b p bm fv sv fb gf gs) (h0:spareOf p.fr fb.length= []) (hn:fb.length < p.fr.length):
  Calls Tryz.prog 185 #[bx b] w (LeastP w b p bm gf gs fb.length (fb ++ [zero256]) []):=by
 have hlen:=h.ok.most
 obtain⟨i0,hi,hz0,hz1,hz2⟩:=info_parts space_info
 have hbl:=h.obj.lt
 have hb1:=below1 w (.cells Tryz.zeroCells308 308)
 have hr1:=h.below hb1
 have hne:=h.gf_ne
 have hnews:∀j u,(zero256.map bv)[j]?=some u→(w.alloc (.cells Tryz.zeroCells308 308)).cell? ((⟨w.heap.size,0,none⟩:Addr).add j)=some u:=fun j u hu=>by
  rw [add_plain,Nat.zero_add,cell_alloc_new,zero_cells]
  simpa using hu
 obtain⟨v',w',g',hrun,ho,hg,hgg,hsome⟩:=hr1.frm.append (P:=Tryz.prog) 159 159 i0 _ 256 Tryz.underlying159 hi hz0 hz1 hz2 (by simp [Value.cells,zero256]) (by decide) ⟨w.heap.size,0,none⟩ 1 (zero256.map bv) (by simp [zero256]) hnews zero_one (by unfold maxLen;omega) (by omega)
 obtain⟨A',c',rfl,_⟩:=ho.form
 have hgb:some b≠gf:=fun e=>hne.1 e.symm
 have hk:=hg.block b (by simp;omega) hgb
 have hobj:Row w' b 161 (poolL p.fr.length bm p.left fv sv):=hr1.obj.same hk
 have hset:=hobj.set 66 (.slice A' (fb.length+1) c')
 rw [poolL_fv _ _ _ _ _ _ h.ok.l64]at hset
 have d66:w'.cell? ⟨b,66,none⟩=some fv:=(World.cell?_of_block hk).trans hr1.c66
 have f66:=hobj.frozen 66
 have hfin:=Lh (show ∀e,e= .returned (.int .i64 (fb.length:Int))→LeastP w b p bm gf gs fb.length (fb ++ [zero256]) [] e (w'.setCell ⟨b,66,none⟩ (.slice A' (fb.length+1) c')) from by
  rintro e rfl
  have hks:∀k,k≠b→(w'.setCell ⟨b,66,none⟩ (.slice A' (fb.length+1) c')).heap[k]?=w'.heap[k]?:=fun k hk=>heap_set hk
  have hmb:w'.heap[bm]?=(w.alloc (.cells Tryz.zeroCells308 308)).heap[bm]?:=hg.block bm hr1.map.lt (fun e=>hne.2.1 e.symm)
  have hsp:=hr1.spr
  rw [h0]at hsp
  have hg'b:g'≠some b:=by
   rcases hgg with e | e <;> rw [e]
   ·exact hne.1
   ·simp;omega
  refine⟨rfl,_,_,g',gs,⟨hset,owns_same hr1.map ((hks _ (fun e=>h.ne_map e.symm)).trans hmb),?_,?_⟩,?_,?_⟩
  ·have:=ho.keep (w':=w'.setCell ⟨b,66,none⟩ (.slice A' (fb.length+1) c')) (fun g e=>hks g (fun e2=>hg'b (e2 ▸ e)))
   rw [List.length_append]
   rw [show fl (fb ++ [zero256])=fl fb ++ zero256.map bv by simp [fl]]
   exact this
  ·exact hsp.keep fun g e=>(hks g (fun e2=>hne.2.2.1 (e2 ▸ e))).trans (hg.block g (hr1.lt g (.inr (.inr (.inr e)))) (fun e2=>hne.2.2.2.2 g e2.symm e))
  ·have h1:Keep (blocks b bm gf gs) w w':=(Keep.of_below hb1).grown hg (fun r e=> .inr (.inr (.inr (.inl e))))
   exact h1.set _ (.inl (.inl rfl))
  ·rintro k (e | e | e | e)
   ·exact .inl (.inl e)
   ·exact .inl (.inr (.inl e))
   ·rcases hgg with e2 | e2
    ·exact .inl (.inr (.inr (.inl (e2 ▸ e))))
    ·rw [e2]at e
     injection e with e
     refine .inr ?_
     rw [←e]
     simp
   ·exact .inl (.inr (.inr (.inr e))))
 have c66:=h.c66
 have c67:=h.c67
 obtain⟨sA,sc,rfl,_⟩:=h.spr.form
 rw [h0]at c67
 have hwr:IntKind.i64.wrap ((0:Int) - 1)= -1:=by decide
 have hwr2:wrap64 (fb.length:Int)=(fb.length:Int):=IntWalk.wrap64_in _ (by omega)
 have HBS:=Lh (space_slice w)
 have HRUN:=Lh hrun
 clear hrun hset hobj hk hgb hg hgg ho hnews hne hr1 hb1 h hlen
 go_enter Tryz.func185,Tryz.ntmps185
 go_wp2_with fail
 refine wp_buildSlice_eq 159 1 _ rfl #[(0,.agg Tryz.zeroCells308)] (by simp [Act.eval]) _ _ HBS.out ?_
 go_wp2_with (at_builtin;refine wpList_append_eq _ rfl _ _ 159 159 rfl fv (.slice (some ⟨w.heap.size,0,none⟩) 1 1) rfl rfl _ _ HRUN.out ?_)
 go_ret
 refine hfin.out _ ?_
 show Ending.returned (.int .i64 (wrap64 (fb.length:Int)))=_
 rw [hwr2]
theorem setCells_block {w:World} {b o:Nat} (vs:List Value) {k:Nat} (h:k≠b):(w.setCells b o vs).heap[k]?=w.heap[k]?:=by
 induction vs generalizing o w with
 | nil=>rfl
 | cons v r ih=>rw [World.setCells,ih,heap_set h]
def over (l:List Value) (o:Nat):List Value→List Value
 | []=>l
 | v :: r=>over (l.set o v) (o+1) r
theorem setCells_cells {b:Nat} {t:TypeId}:∀(vs:List Value) (o:Nat) (w:World) (l:List Value),w.heap[b]?=some (.cells l.toArray t (0,0))→(w.setCells b o vs).heap[b]?=some (.cells (over l o vs).toArray t (0,0))
 | [],_,_,_,h=>h
 | v :: r,o,w,l,h=>by
  rw [World.setCells,over]
  exact setCells_cells r (o+1) _ _ (Row.set h o v)
theorem over_len:∀(vs:List Value) (l:List Value) (o:Nat),(over l o vs).length=l.length
 | [],_,_=>rfl
 | v :: r,l,o=>by rw [over,over_len r];simp
theorem over_get:∀(vs:List Value) (l:List Value) (o j:Nat),o+vs.length≤l.length→(over l o vs)[j]?=if o≤j∧j < o+vs.length then vs[j - o]? else l[j]?
 | [],l,o,j,_=>by simp only [over,List.length_nil];rw [if_neg (by omega)]
 | v :: r,l,o,j,h=>by
  simp only [List.length_cons]at h ⊢
  rw [over,over_get r _ _ _ (by simp;omega),List.getElem?_set]
  by_cases h1:o+1≤j∧j < o+1+r.length
  ·rw [if_pos h1,if_pos (by omega),show j - o=(j - (o+1))+1 by omega,List.getElem?_cons_succ]
  ·rw [if_neg h1]
   by_cases h2:o=j
   ·subst h2
    rw [if_pos rfl,if_pos (by omega),if_pos (by omega),Nat.sub_self]
    rfl
   ·rw [if_neg h2,if_neg (by omega)]
theorem over_take (l vs:List Value) (o n:Nat) (h:o+vs.length≤n) (hn:n≤l.length):(over l o vs).take n=over (l.take n) o vs:=by
 refine List.ext_getElem? fun j=> ?_
 rw [List.getElem?_take,over_get _ _ _ _ (by omega),over_get _ _ _ _ (by rw [List.length_take];omega),List.getElem?_take]
 by_cases h1:j < n
 ·rw [if_pos h1,if_pos h1]
 ·rw [if_neg h1,if_neg h1,if_neg (by omega)]
theorem fl_get:∀(fb:List (List UInt8)),(∀bs∈fb,bs.length=256)→∀(i j:Nat) (hi:i < fb.length),j < 256→(fl fb)[i*256+j]?=(fb[i].map bv)[j]?
 | [],_,i,_,h,_=>by simp at h
 | bs :: r,h,0,j,_,hj=>by
  have h1:bs.length=256:=h bs (by simp)
  simp only [fl,List.flatMap_cons,Nat.zero_mul,Nat.zero_add]
  rw [List.getElem?_append_left (by rw [List.length_map,h1];exact hj)]
  rfl
 | bs :: r,h,i+1,j,hi,hj=>by
  have h1:bs.length=256:=h bs (by simp)
  have:=fl_get r (fun x hx=>h x (by simp [hx])) i j (by simpa using hi) hj
  simp only [fl,List.flatMap_cons]
  rw [List.getElem?_append_right (by rw [List.length_map,h1];omega),List.length_map,h1,show(i+1)*256+j - 256=i*256+j by omega]
  exact this
theorem fl_over (fb:List (List UInt8)) (hf:∀bs∈fb,bs.length=256) (i o:Nat) (hi:i < fb.length) (xs:List UInt8) (ho:o+xs.length≤256):over (fl fb) (i*256+o) (xs.map bv)=fl (fb.set i (putB fb[i] o xs)):=by
 have hlen:=fl_len fb hf
 have hb:fb[i].length=256:=hf _ (List.getElem_mem hi)
 have hf2:∀bs∈fb.set i (putB fb[i] o xs),bs.length=256:=fun bs hbs=>by
  rcases List.mem_or_eq_of_mem_set hbs with h | h
  ·exact hf _ h
  ·rw [h,putB_len _ _ _ (by omega)];exact hb
 have hlen2:=fl_len _ hf2
 rw [List.length_set]at hlen2
 have hmul:i*256+256≤fb.length*256:=by have:=Nat.mul_le_mul_right 256 (show i+1≤fb.length by omega);omega
 refine List.ext_getElem? fun j=> ?_
 rw [over_get _ _ _ _ (by rw [List.length_map,hlen];omega),List.length_map]
 by_cases hj:j < fb.length*256
 ·have hdm:j=j / 256*256+j % 256:=by omega
  have hq:j / 256 < fb.length:=by omega
  have e1:=fl_get _ hf2 (j / 256) (j % 256) (by rw [List.length_set];exact hq) (by omega)
  have e2:=fl_get fb hf (j / 256) (j % 256) hq (by omega)
  rw [←hdm]at e1 e2
  rw [e1,e2]
  by_cases hji:j / 256=i
  ·have hg:(fb.set i (putB fb[i] o xs))[j / 256]'(by rw [List.length_set];exact hq)=putB fb[i] o xs:=by
    rw [List.getElem_set]
    rw [if_pos hji.symm]
   rw [hg]
   have hg2:fb[j / 256]=fb[i]:=by congr 1
   rw [hg2]
   simp only [List.getElem?_map,putB]
   by_cases h3:i*256+o≤j∧j < i*256+o+xs.length
   ·rw [if_pos h3,List.getElem?_append_left (by simp;omega),List.getElem?_append_right (by simp;omega)]
    congr 2
    simp
    omega
   ·rw [if_neg h3]
    by_cases h4:j % 256 < o
    ·rw [List.getElem?_append_left (by simp;omega),List.getElem?_append_left (by simp;omega),List.getElem?_take,if_pos h4]
    ·rw [List.getElem?_append_right (by simp;omega),List.getElem?_drop]
     congr 2
     simp
     omega
  ·have hg:(fb.set i (putB fb[i] o xs))[j / 256]'(by rw [List.length_set];exact hq)=fb[j / 256]:=by
    rw [List.getElem_set]
    rw [if_neg (fun e=>hji e.symm)]
   rw [hg,if_neg (by omega)]
 ·rw [if_neg (by omega),List.getElem?_eq_none (by omega),List.getElem?_eq_none (by omega)]
theorem Own.put {w:World} {v:Value} {fb:List (List UInt8)} {g:Nat} (h:Own w 308 256 v fb.length (fl fb) (some g)) (hf:∀bs∈fb,bs.length=256) (i o:Nat) (hi:i < fb.length) (xs:List UInt8) (ho:o+xs.length≤256):
  Own (w.setCells g (i*256+o) (xs.map bv)) 308 256 v (fb.set i (putB fb[i] o xs)).length (fl (fb.set i (putB fb[i] o xs))) (some g):=by
 have hlen:=fl_len fb hf
 have hmul:i*256+256≤fb.length*256:=by have:=Nat.mul_le_mul_right 256 (show i+1≤fb.length by omega);omega
 rcases h with⟨h0,_⟩ | ⟨b',cap,cur,h1,rfl,h3,h4,h5,h6,h7,h8⟩
 ·cases h0
 ·injection h1 with h1
  subst h1
  rw [List.length_set]
  have hcs:cur.toList.length=cap*256:=by simpa using h6
  have hcl:fb.length*256≤cur.toList.length:=by rw [hcs];exact Nat.mul_le_mul_right _ h4
  have hset:=setCells_cells (b:=g) (t:=308) (xs.map bv) (i*256+o) w cur.toList (by rw [Array.toArray_toList];exact h3)
  refine .inr ⟨g,cap,_,rfl,rfl,hset,h4,h5,?_,?_,?_⟩
  ·rw [List.size_toArray,over_len]
   exact hcs
  ·rw [←fl_over fb hf i o hi xs ho,over_len]
   exact h7
  ·simp only []
   rw [over_take _ _ _ _ (by rw [List.length_map];omega) hcl,h8]
   exact fl_over fb hf i o hi xs ho
theorem Own.shrink {w:World} {t:TypeId} {v:Value} {n:Nat} {xs ys:List Value} {g:Option Nat} (h:Own w t 1 v n xs g) (m:Nat) (hm:m≤n) (hy:xs.take m=ys):
  ∃A c,v= .slice A n c∧n≤c∧c≤maxLen∧Own w t 1 (.slice A m c) m ys g:=by
 rcases h with⟨rfl,rfl,rfl,A,rfl⟩ | ⟨b,cap,cur,rfl,rfl,h3,h4,h5,h6,h7,h8⟩
 ·obtain rfl:m=0:=by omega
  exact⟨A,0,rfl,Nat.le_refl _,Nat.zero_le _,.inl ⟨rfl,rfl,by rw [←hy];rfl,A,rfl⟩⟩
 ·refine⟨_,cap,rfl,h4,h5,.inr ⟨b,cap,cur,rfl,rfl,h3,by omega,h5,h6,?_,?_⟩⟩
  ·rw [←hy,List.length_take,h7];omega
  ·rw [←hy,←h8,List.take_take]
   congr 1
   omega
theorem zero_len0:zero256.length=256:=List.length_replicate
theorem zero_put (bs:List UInt8) (h:bs.length=256):putB bs 0 zero256=zero256:=by
 unfold putB
 rw [List.take_zero,List.nil_append,List.drop_of_length_le (by rw [zero_len0,h];exact Nat.le_refl _),List.append_nil]
theorem step_store_mid {P:Program} {ops:Array Oper} {o:Oper} {a:Act} {w:World} {K:Act→World→Prop} {Q:Exit→Act→World→Prop} {E:Prop}
  (hg:o.guard=none) (ty:TypeId) (x y:Operand) (ho:o.op= .store ty x y) (b off:Nat) (cells:Array Value) (hx:a.eval x= .pointer (some ⟨b,off,none⟩)) (hy:a.eval y= .agg cells)
  (ht:w.there b off cells.size) (hi:(P.info? ty).map (·.size)=some cells.size) (h1:cells.all (·.oneCell')=true) (hK:K (a.put o.dst undef) (w.setCells b off cells.toList)):
  if Region.wanted o (yielded ops a.tmps)=true then Oper.wp P o a w K Q else E:=by
 rw [if_pos (by simp [Region.wanted,hg])]
 exact wp_store_mid ty x y ho b off cells hx hy ht hi h1 hK
theorem space_size:(Tryz.prog.info? 308).map (·.size)=some Tryz.zeroCells308.size:=by kernel_rfl
theorem space_one:Tryz.zeroCells308.all (·.oneCell')=true:=by kernel_rfl
theorem space_len:Tryz.zeroCells308.size=256:=by kernel_rfl
theorem space_list:Tryz.zeroCells308.toList=zero256.map bv:=by rw [zero_cells]
theorem least_old {b bm:Nat} {p:Pl} {fv sv:Value} {fb:List (List UInt8)} {gf gs:Option Nat} {w:World} (h:Rep w b p bm fv sv fb gf gs) (i:Nat) (sp:List Nat) (h0:spareOf p.fr fb.length=sp ++ [i]) (hi:i < fb.length):
  Calls Tryz.prog 185 #[bx b] w (LeastP w b p bm gf gs i (fb.set i zero256) sp):=by
 have hne:=h.gf_ne
 have hl64:=h.ok.l64
 have c66:=h.c66
 have c67:=h.c67
 have hspr:=h.spr
 rw [h0,List.map_append,List.length_append]at hspr
 obtain⟨f0,fc,fcur,rfl,rfl,hfc1,hfc2,hfH,hfs,hft⟩:=h.frm.block (by omega)
 obtain⟨s0,sc,scur,rfl,rfl,hsc1,hsc2,hsH,hss,hst⟩:=hspr.block (by simp)
 obtain⟨A,c,hA,_,_,hshr⟩:=hspr.shrink sp.length (by simp) (ys:=sp.map iv) (by rw [List.take_append_of_le_length (by simp)];rw [List.take_of_length_le (by simp)])
 injection hA with hA1 hA2 hA3
 subst hA1
 subst hA3
 have hlast:=hspr.cell rfl sp.length (by simp)
 rw [List.getElem?_append_right (by simp)]at hlast
 simp only [List.length_map,Nat.sub_self,List.map_cons,List.map_nil,List.getElem?_cons_zero,iv]at hlast
 have hfb:f0≠b:=fun e=>hne.1 (by rw [e])
 have hsb:s0≠b:=fun e=>hne.2.2.1 (by rw [e])
 have hfs0:f0≠s0:=fun e=>hne.2.2.2.2 f0 rfl (by rw [e])
 have hmf:bm≠f0:=fun e=>hne.2.1 (by rw [e])
 have hms:bm≠s0:=fun e=>hne.2.2.2.1 (by rw [e])
 have hmb:=h.ne_map
 obtain⟨Z,hZ⟩:=Nm (zero256)
 have hZl:Z.length=256:=by rw [hZ];exact zero_len0
 rw [←hZ]
 have hput:putB fb[i] 0 Z=Z:=by rw [hZ];exact zero_put _ (h.fbs _ (List.getElem_mem hi))
 obtain⟨w1,hw1⟩:=Nm ((w.setCell ⟨b,67,none⟩ (.slice (some ⟨s0,0,none⟩) sp.length sc)).drew)
 have k1:∀k,k≠b→w1.heap[k]?=w.heap[k]?:=fun k hk=>by rw [hw1];exact heap_set hk
 have hfrm1:Own w1 308 256 (.slice (some ⟨f0,0,none⟩) fb.length fc) fb.length (fl fb) (some f0):=h.frm.keep fun g e=>by injection e with e;rw [←e];exact k1 _ hfb
 have hput1:=hfrm1.put h.fbs i 0 hi Z (by rw [hZl];exact Nat.le_refl _)
 rw [hput,Nat.add_zero]at hput1
 have hobj1:Row w1 b 161 (poolL p.fr.length bm p.left (.slice (some ⟨f0,0,none⟩) fb.length fc) (.slice (some ⟨s0,0,none⟩) sp.length sc)):=by
  have:=h.obj.set 67 (.slice (some ⟨s0,0,none⟩) sp.length sc)
  rw [poolL_sv _ _ _ _ _ _ hl64]at this
  rw [hw1]
  exact this
 have hfin:=Lh (show LeastP w b p bm (some f0) (some s0) i (fb.set i Z) sp (.returned (.int .i64 (i:Int))) (w1.setCells f0 (i*256) (Z.map bv)) from by
  have k2:∀k,k≠f0→(w1.setCells f0 (i*256) (Z.map bv)).heap[k]?=w1.heap[k]?:=fun k hk=>setCells_block _ hk
  refine⟨rfl,_,_,some f0,some s0,⟨hobj1.same (k2 b (fun e=>hfb e.symm)),owns_same h.map ((k2 bm hmf).trans (k1 bm (fun e=>hmb e.symm))),hput1,hshr.keep fun g e=> ?_⟩,?_,fun k hk=> .inl hk⟩
  ·injection e with e
   rw [←e]
   exact(k2 _ (fun e2=>hfs0 e2.symm)).trans (k1 _ hsb)
  ·have h1:Keep (blocks b bm (some f0) (some s0)) w w1:=by rw [hw1];exact((Keep.refl w).set _ (.inl (.inl rfl))).drewN 1
   have hall:∀(vs:List Value) (o:Nat) (V:World),Keep (blocks b bm (some f0) (some s0)) w V→Keep (blocks b bm (some f0) (some s0)) w (V.setCells f0 o vs):=by
    intro vs
    induction vs with
    | nil=>intro o V hV;exact hV
    | cons v r ih=>intro o V hV;exact ih _ _ (hV.set _ (.inl (.inr (.inr (.inl rfl)))))
   exact hall _ _ _ h1)
 have hthere:w1.there f0 (i*256) 256:=fun j hj=>by
  have:(w1.cell? ⟨f0,i*256+j,none⟩)=(fl fb)[i*256+j]?:=hfrm1.cell rfl _ (by have:=Nat.mul_le_mul_right 256 (show i+1≤fb.length by omega);omega)
  refine⟨?_,hfrm1.frozen rfl _⟩
  rw [this,List.getElem?_eq_getElem]
  ·rfl
  ·rw [fl_len _ h.fbs];have:=Nat.mul_le_mul_right 256 (show i+1≤fb.length by omega);omega
 have hrow:=h.obj
 have f67:=h.obj.frozen 67
 have hmost:=h.ok.most
 have hfl:=h.fbl
 have hsl:sp.length < fb.length:=by
  have h1:(spareOf p.fr fb.length).length≤fb.length:=by unfold spareOf;rw [List.length_reverse];exact Nat.le_trans (List.length_filter_le _ _) (by simp)
  rw [h0,List.length_append]at h1
  exact h1
 simp only [List.length_cons,List.length_nil,Nat.zero_add]at c67 hsc1
 obtain⟨n,hn⟩:=Nm (sp.length)
 obtain⟨N,hN⟩:=Nm (fb.length)
 rw [←hn]at c67 hlast hsc1 hsl hw1
 rw [←hN]at c66 hfc1 hsl hfl hi
 have e1:decide ((n:Int) < 0)=false:=Df (by omega)
 have i0:(0:Int)≤(n:Int):=by omega
 have i1:(n:Int) < (n:Int)+1:=by omega
 have j0:(0:Int)≤(i:Int):=by omega
 have j1:(i:Int) < (N:Int):=by omega
 have l1:(n:Int)≤(sc:Int):=by omega
 have l2:¬(sc=0):=by omega
 have l3:n≤sc:=by omega
 have mixed:Tryz.prog.follows .mixedOrders=true:=by kernel_rfl
 have HTH2:=Lh (show((w.setCell ⟨b,67,none⟩ (.slice (some ⟨s0,0,none⟩) n sc)).drew).there f0 (i*256) Tryz.zeroCells308.size from by rw [space_len,←hw1];exact hthere)
 have hfin2:=Lh (show ∀e,e=Ending.returned (.int .i64 (i:Int))→LeastP w b p bm (some f0) (some s0) i (fb.set i Z) sp e (((w.setCell ⟨b,67,none⟩ (.slice (some ⟨s0,0,none⟩) n sc)).drew).setCells f0 (i*256) Tryz.zeroCells308.toList) from by
  rintro e rfl
  rw [space_list,←hZ,←hw1]
  exact hfin.out)
 have hw64:wrap64 (n:Int)=(n:Int):=IntWalk.wrap64_in _ (by omega)
 clear hfin hw1 hthere hZ hZl hobj1 hput1 hfrm1 k1 hput hmb hms hmf hfs0 hfb hsb hshr hst hsH hss hft hfH hfs hspr hl64 hne hrow hn hN hmost h0 h hfl hsc1 hsc2 hfc1 hfc2 hsl
 go_enter Tryz.func185,Tryz.ntmps185
 go_wp2_with fail
 refine wp_region_any mixed ?_
 refine wpAny_take (i:=0) (v:= ?_) rfl (by kernel_rfl) (by kernel_rfl) (by kernel_rfl) (fun _ _ _ h=>h) (Or.inl ⟨by kernel_rfl,?_⟩) ?_
 rotate_left
 focus(intro w;go_simp;try with_reducible rfl)
 simp only [Act.put]
 refine wpAny_take (i:=1) (v:= ?_) rfl (by kernel_rfl) (by kernel_rfl) (by kernel_rfl) (fun _ _ _ h=>h) (Or.inl ⟨by kernel_rfl,?_⟩) ?_
 rotate_left
 focus(intro w;go_simp;try with_reducible rfl)
 simp only [Act.put]
 refine wpAny_take (i:=2) (v:= ?_) rfl (by kernel_rfl) (by kernel_rfl) (by kernel_rfl) (fun _ _ _ h=>h) (Or.inl ⟨by kernel_rfl,?_⟩) ?_
 rotate_left
 focus(intro w;go_simp;try with_reducible rfl)
 simp only [Act.put]
 refine wpAny_take (i:=3) (v:= ?_) rfl (by kernel_rfl) (by kernel_rfl) (by kernel_rfl) (fun _ _ _ h=>h) (Or.inl ⟨by kernel_rfl,?_⟩) ?_
 rotate_left
 focus(intro w;go_simp;try with_reducible rfl)
 simp only [Act.put]
 refine wpAny_take (i:=6) (v:= ?_) rfl (by kernel_rfl) (by kernel_rfl) (by kernel_rfl) (fun _ _ _ h=>h) (Or.inl ⟨by kernel_rfl,?_⟩) ?_
 rotate_left
 focus(intro w;go_simp;try with_reducible rfl)
 simp only [Act.put]
 refine wpAny_take (i:=7) (v:= ?_) rfl (by kernel_rfl) (by kernel_rfl) (by kernel_rfl) (fun _ _ _ h=>h) (Or.inl ⟨by kernel_rfl,?_⟩) ?_
 rotate_left
 focus(intro w;go_simp;try with_reducible rfl)
 simp only [Act.put]
 refine wpAny_take (i:=8) (v:= ?_) rfl (by kernel_rfl) (by kernel_rfl) (by kernel_rfl) (fun _ _ _ h=>h) (Or.inl ⟨by kernel_rfl,?_⟩) ?_
 rotate_left
 focus(intro w;go_simp;try with_reducible rfl)
 simp only [Act.put]
 refine wpAny_take (i:=10) (v:= ?_) rfl (by kernel_rfl) (by kernel_rfl) (by kernel_rfl) (fun _ _ _ h=>h) (Or.inl ⟨by kernel_rfl,?_⟩) ?_
 rotate_left
 focus(intro w;go_simp;try with_reducible rfl)
 simp only [Act.put]
 refine wpAny_take (i:=12) (v:= ?_) rfl (by kernel_rfl) (by kernel_rfl) (by kernel_rfl) (fun _ _ _ h=>h) (Or.inl ⟨by kernel_rfl,?_⟩) ?_
 rotate_left
 focus(intro w;go_simp;try with_reducible rfl)
 simp only [Act.put]
 refine wpAny_take (i:=5) (v:= ?_) rfl (by kernel_rfl) (by kernel_rfl) (by kernel_rfl) (fun _ _ _ h=>h) (Or.inl ⟨by kernel_rfl,?_⟩) ?_
 rotate_left
 focus(intro w;go_simp;try with_reducible rfl)
 simp only [Act.put]
 refine wpAny_ready (rs:= [4,9]) (by kernel_rfl) (by simp) ?_
 refine AllReady.cons rfl (fun K hK=> ?_) (AllReady.cons rfl (fun K hK=> ?_) (AllReady.nil))
 ·go_simp
  refine hK _ _ ?_
  clear hK K
  try simp only [Act.put]
  refine wpAny_ready (rs:= [9]) (by kernel_rfl) (by simp) ?_
  refine AllReady.cons rfl (fun K hK=> ?_) (AllReady.nil)
  go_simp
  refine hK _ _ ?_
  clear hK K
  try simp only [Act.put]
  refine wpAny_take (i:=11) (v:= ?_) rfl (by kernel_rfl) (by kernel_rfl) (by kernel_rfl) (fun _ _ _ h=>h) (Or.inl ⟨by kernel_rfl,?_⟩) ?_
  rotate_left
  focus(intro w;go_simp;try with_reducible rfl)
  simp only [Act.put]
  refine wpAny_take (i:=13) (v:= ?_) rfl (by kernel_rfl) (by kernel_rfl) (by kernel_rfl) (fun _ _ _ h=>h) (Or.inl ⟨by kernel_rfl,?_⟩) ?_
  rotate_left
  focus(intro w;go_simp;try with_reducible rfl)
  simp only [Act.put]
  refine wpAny_take (i:=14) (v:= ?_) rfl (by kernel_rfl) (by kernel_rfl) (by kernel_rfl) (fun _ _ _ h=>h) (Or.inl ⟨by kernel_rfl,?_⟩) ?_
  rotate_left
  focus(intro w;go_simp;try with_reducible rfl)
  simp only [Act.put]
  refine wpAny_ready (rs:= [15]) (by kernel_rfl) (by simp) ?_
  refine AllReady.cons rfl (fun K hK=> ?_) (AllReady.nil)
  go_simp
  refine hK _ _ ?_
  clear hK K
  try simp only [Act.put]
  refine wpAny_take (i:=16) (v:= ?_) rfl (by kernel_rfl) (by kernel_rfl) (by kernel_rfl) (fun _ _ _ h=>h) (Or.inl ⟨by kernel_rfl,?_⟩) ?_
  rotate_left
  focus(intro w;go_simp;try with_reducible rfl)
  simp only [Act.put]
  refine wpAny_ready (rs:= [17]) (by kernel_rfl) (by simp) ?_
  refine AllReady.cons rfl (fun K hK=> ?_) (AllReady.nil)
  refine step_store_mid rfl 308 _ _ rfl f0 (i*256) Tryz.zeroCells308 (by simp [Act.eval]) (by simp [Act.eval]) HTH2.out space_size space_one ?_
  refine hK _ _ ?_
  clear hK K
  try simp only [Act.put]
  refine wpAny_done (by kernel_rfl) ?_ _
  clear HTH2
  go_wp2
  go_ret
  exact hfin2.out _ rfl
 ·go_simp
  refine hK _ _ ?_
  clear hK K
  try simp only [Act.put]
  refine wpAny_take (i:=11) (v:= ?_) rfl (by kernel_rfl) (by kernel_rfl) (by kernel_rfl) (fun _ _ _ h=>h) (Or.inl ⟨by kernel_rfl,?_⟩) ?_
  rotate_left
  focus(intro w;go_simp;try with_reducible rfl)
  simp only [Act.put]
  refine wpAny_ready (rs:= [4]) (by kernel_rfl) (by simp) ?_
  refine AllReady.cons rfl (fun K hK=> ?_) (AllReady.nil)
  go_simp
  refine hK _ _ ?_
  clear hK K
  try simp only [Act.put]
  refine wpAny_take (i:=13) (v:= ?_) rfl (by kernel_rfl) (by kernel_rfl) (by kernel_rfl) (fun _ _ _ h=>h) (Or.inl ⟨by kernel_rfl,?_⟩) ?_
  rotate_left
  focus(intro w;go_simp;try with_reducible rfl)
  simp only [Act.put]
  refine wpAny_take (i:=14) (v:= ?_) rfl (by kernel_rfl) (by kernel_rfl) (by kernel_rfl) (fun _ _ _ h=>h) (Or.inl ⟨by kernel_rfl,?_⟩) ?_
  rotate_left
  focus(intro w;go_simp;try with_reducible rfl)
  simp only [Act.put]
  refine wpAny_ready (rs:= [15]) (by kernel_rfl) (by simp) ?_
  refine AllReady.cons rfl (fun K hK=> ?_) (AllReady.nil)
  go_simp
  refine hK _ _ ?_
  clear hK K
  try simp only [Act.put]
  refine wpAny_take (i:=16) (v:= ?_) rfl (by kernel_rfl) (by kernel_rfl) (by kernel_rfl) (fun _ _ _ h=>h) (Or.inl ⟨by kernel_rfl,?_⟩) ?_
  rotate_left
  focus(intro w;go_simp;try with_reducible rfl)
  simp only [Act.put]
  refine wpAny_ready (rs:= [17]) (by kernel_rfl) (by simp) ?_
  refine AllReady.cons rfl (fun K hK=> ?_) (AllReady.nil)
  refine step_store_mid rfl 308 _ _ rfl f0 (i*256) Tryz.zeroCells308 (by simp [Act.eval]) (by simp [Act.eval]) HTH2.out space_size space_one ?_
  refine hK _ _ ?_
  clear hK K
  try simp only [Act.put]
  refine wpAny_done (by kernel_rfl) ?_ _
  clear HTH2
  go_wp2
  go_ret
  exact hfin2.out _ rfl
def boxW (w:World):List (Value × TypeId)→World
 | []=>w
 | x :: r=>boxW (w.alloc (.cells #[x.1] x.2)) r
structure Boxes (w:World) (l:List Value) (V:World):Prop where
 below:Below w.heap.size w V
 cell:∀k v,l[k]?=some v→V.cell? ⟨w.heap.size+k,0,none⟩=some v
 size:w.heap.size+l.length≤V.heap.size
theorem box_size:∀(l:List (Value × TypeId)) (w:World),(boxW w l).heap.size=w.heap.size+l.length
 | [],w=>rfl
 | x :: r,w=>by rw [boxW,box_size r];simp;omega
theorem box_below:∀(l:List (Value × TypeId)) (w V:World),Below w.heap.size w V→Below w.heap.size w (boxW V l)
 | [],w,V,h=>h
 | x :: r,w,V,h=>by rw [boxW];exact box_below r w _ (h.alloc h.size _)
theorem box_keep:∀(l:List (Value × TypeId)) (V:World) (p:Addr),p.block < V.heap.size→(boxW V l).cell? p=V.cell? p
 | [],V,p,h=>rfl
 | x :: r,V,p,h=>by
  rw [boxW,box_keep r _ p (by simp;omega)]
  exact World.cell?_alloc_lt _ _ _ h
theorem box_cell:∀(l:List (Value × TypeId)) (w:World) (k:Nat) (x:Value × TypeId),l[k]?=some x→(boxW w l).cell? ⟨w.heap.size+k,0,none⟩=some x.1
 | [],w,k,x,h=>by simp at h
 | y :: r,w,0,x,h=>by
  simp at h
  subst h
  rw [boxW,box_keep r _ _ (by simp)]
  exact cell_alloc_new _ _ _ _
 | y :: r,w,k+1,x,h=>by
  have:=box_cell r (w.alloc (.cells #[y.1] y.2)) k x (by simpa using h)
  rw [World.size_alloc]at this
  rw [boxW,show w.heap.size+(k+1)=w.heap.size+1+k by omega]
  exact this
def askW (w:World) (l:List (Value × TypeId)) (qs:List Ask):World:=(boxW w l).alloc (.cells (askCells qs).toArray 154)
theorem Boxes.more {w V V':World} {l:List Value} (h:Boxes w l V) (hb:Below V.heap.size V V'):Boxes w l V':=
 ⟨below0 h.below hb,fun k v hk=>(hb.cell (p:=⟨w.heap.size+k,0,none⟩) (by have:=(List.getElem?_eq_some_iff.1 hk).1;have:=h.size;show w.heap.size+k < _;omega)).trans (h.cell k v hk),Nat.le_trans h.size hb.size⟩
theorem Boxes.keep {w V V':World} {l:List Value} {F:Nat→Prop} (h:Boxes w l V) (hb:Keep F V V') (hF:∀k,F k→k < w.heap.size) (k:Nat) (v:Value) (hk:l[k]?=some v):V'.cell? ⟨w.heap.size+k,0,none⟩=some v:=
 (hb.cell (p:=⟨w.heap.size+k,0,none⟩) (by have:=(List.getElem?_eq_some_iff.1 hk).1;have:=h.size;show w.heap.size+k < _;omega) (fun hf=>by have h1:=hF _ hf;simp only at h1;omega)).trans (h.cell k v hk)
theorem askW_boxes (w:World) (l:List (Value × TypeId)) (qs:List Ask):Boxes w (l.map Prod.fst) (askW w l qs)∧Row (askW w l qs) (w.heap.size+l.length) 154 (askCells qs)∧(askW w l qs).heap.size=w.heap.size+l.length+1:=by
 have hs:=box_size l w
 refine⟨⟨(box_below l w w Br).alloc (by omega) _,fun k v hk=> ?_,by simp [askW,hs]⟩,Row.new_at _ _ _ hs,by simp [askW,hs]⟩
 rw [List.getElem?_map,Option.map_eq_some_iff]at hk
 obtain⟨x,hx,rfl⟩:=hk
 refine(World.cell?_alloc_lt _ _ _ ?_).trans (box_cell l w k x hx)
 have:=(List.getElem?_eq_some_iff.1 hx).1
 show w.heap.size+k < _
 omega
theorem asked_box {w:World} (l:List (Value × TypeId)) (qs:List Ask) (n c s:Nat) (hs:s=w.heap.size+l.length) (hn:qs.length=n) (hm:n≤100)
  (HQ:∀k (hk:k < qs.length),(∀j (hj:j < qs.length),j < k→qs[j].ans=true)→(∀args V,(callFunc qs[k].cf args).run Tryz.prog V= .ok (.enter qs[k].cf args) V)∧
   ∀V,Boxes w (l.map Prod.fst) V→Calls Tryz.prog qs[k].cf (qs[k].first ++ qs[k].cap) V fun e V'=>e= .returned (.bool qs[k].ans)∧Below V.heap.size V V'):
  Calls Tryz.prog 76 #[.slice (some ⟨s,0,none⟩) n c] (askW w l qs) fun e w'=>e= .returned (.int .i64 (askE qs))∧Boxes w (l.map Prod.fst) w'∧s < w'.heap.size:=by
 obtain⟨h1,h2,h3⟩:=askW_boxes w l qs
 subst hs
 refine(asked_any qs (w.heap.size+l.length) n c _ hn hm h2 fun k hk hall=>⟨(HQ k hk hall).1,fun V hV=>(HQ k hk hall).2 V (h1.more hV)⟩).mono fun e w' ⟨e1,e2⟩=>⟨e1,h1.more e2,?_⟩
 have:=e2.size
 omega
theorem Boxes.rep {w V:World} {l:List Value} {b bm:Nat} {p:Pl} {fv sv:Value} {fb:List (List UInt8)} {gf gs:Option Nat} (h:Boxes w l V) (hr:Rep w b p bm fv sv fb gf gs):Rep V b p bm fv sv fb gf gs:=hr.below h.below
theorem owns_tight {k:TypeId} {R:Value→Option (DataW Unit × List MemPlace)} {w:World} {b n m:Nat} {D:DataW Unit} (h:w.ownsMap Tryz.prog k R b n D) (hm:Maps.size D≤m):w.ownsMap Tryz.prog k R b m D:=by
 obtain⟨es,clock,h1,h2,h3,rfl⟩:=h
 refine⟨es,clock,h1,h2,?_,rfl⟩
 simpa [Maps.size,length_sorted] using hm
theorem Mid.set_left {w:World} {b bm:Nat} {p:Pl} {fv sv:Value} {fb:List (List UInt8)} {sp:List Nat} {gf gs:Option Nat} (h:Mid w b p bm fv sv fb sp gf gs) (hne:bm≠b∧gf≠some b∧gs≠some b) (hl:p.left.length=64) (o v:Nat) (ho:o < 64):
  Mid (w.setCell ⟨b,2+o,none⟩ (.int .i64 (v:Int))) b {p with left:=p.left.set o v} bm fv sv fb sp gf gs:=by
 have hk:∀k,k≠b→(w.setCell ⟨b,2+o,none⟩ (.int .i64 (v:Int))).heap[k]?=w.heap[k]?:=fun k hk=>heap_set hk
 refine⟨?_,owns_same h.map (hk _ hne.1),h.frm.keep fun g e=>hk _ (fun e2=>hne.2.1 (e2 ▸ e)),h.spr.keep fun g e=>hk _ (fun e2=>hne.2.2 (e2 ▸ e))⟩
 have:=h.obj.set (2+o) (.int .i64 (v:Int))
 rw [poolL_left _ _ _ _ _ _ _ hl ho]at this
 exact this
theorem Mid.ne {w:World} {b bm:Nat} {p:Pl} {fv sv:Value} {fb:List (List UInt8)} {sp:List Nat} {gf gs:Option Nat} (h:Mid w b p bm fv sv fb sp gf gs):bm≠b∧gf≠some b∧gf≠some bm∧gs≠some b∧gs≠some bm∧∀k,gf=some k→gs≠some k:=by
 obtain⟨es,clock,hm,_⟩:=h.map
 refine⟨fun e=> ?_,fun e=> ?_,fun e=> ?_,fun e=> ?_,fun e=> ?_,fun k e e'=> ?_⟩
 ·rw [e]at hm
  cases h.obj.symm.trans hm
 ·obtain⟨cur,hc⟩:=h.frm.cells_ty e
  have:=h.obj.symm.trans hc
  injection this with this
  injection this with _ h2
  exact absurd h2 (by decide)
 ·obtain⟨cur,hc⟩:=h.frm.cells_ty e
  have:=hm.symm.trans hc
  cases this
 ·obtain⟨cur,hc⟩:=h.spr.cells_ty e
  have:=h.obj.symm.trans hc
  injection this with this
  injection this with _ h2
  exact absurd h2 (by decide)
 ·obtain⟨cur,hc⟩:=h.spr.cells_ty e
  have:=hm.symm.trans hc
  cases this
 ·obtain⟨cur,hc⟩:=h.frm.cells_ty e
  obtain⟨cur',hc'⟩:=h.spr.cells_ty e'
  have:=hc.symm.trans hc'
  injection this with this
  injection this with _ h2
  exact absurd h2 (by decide)
theorem Mid.cl {w:World} {b bm:Nat} {p:Pl} {fv sv:Value} {fb:List (List UInt8)} {sp:List Nat} {gf gs:Option Nat} (h:Mid w b p bm fv sv fb sp gf gs) (hok:p.ok) {o:Nat} (ho:o < 64):w.cell? ⟨b,2+o,none⟩=some (.int .i64 (leftN p o:Int)):=by
 rw [h.obj.cell,poolL,show 2+o=o+1+1 by omega,List.getElem?_cons_succ,List.getElem?_cons_succ,List.getElem?_append_left (by rw [List.length_map,hok.l64];exact ho),List.getElem?_map,hok.left_get ho]
 rfl
theorem Mid.lt {w:World} {b bm:Nat} {p:Pl} {fv sv:Value} {fb:List (List UInt8)} {sp:List Nat} {gf gs:Option Nat} (h:Mid w b p bm fv sv fb sp gf gs):∀k,blocks b bm gf gs k→k < w.heap.size:=by
 rintro k (rfl | rfl | e | e)
 ·exact h.obj.lt
 ·exact h.map.lt
 ·exact h.frm.lt k e
 ·exact h.spr.lt k e
theorem Mid.turn {w w':World} {b bm:Nat} {p:Pl} {fv sv:Value} {fb:List (List UInt8)} {sp:List Nat} {gf gs:Option Nat} (h:Mid w b p bm fv sv fb sp gf gs) (hg:w.grownBy w' (some bm)) (fr:List Fr) (hl:fr.length=p.fr.length)
  (hown:w'.ownsMap Tryz.prog 3 (plainElem Tryz.prog 3) bm 16384 (mapD (owns fr))):Mid w' b {p with fr:=fr} bm fv sv fb sp gf gs:=by
 obtain⟨n1,n2,n3,n4,n5,n6⟩:=h.ne
 have hk:∀k,k < w.heap.size→k≠bm→w'.heap[k]?=w.heap[k]?:=fun k hk hne=>hg.block k hk (fun e=>hne (Option.some.inj e))
 refine⟨?_,hown,h.frm.keep fun g e=>hk g (h.frm.lt g e) (fun e2=>n3 (e2 ▸ e)),h.spr.keep fun g e=>hk g (h.spr.lt g e) (fun e2=>n5 (e2 ▸ e))⟩
 show Row w' b 161 (poolL fr.length bm p.left fv sv)
 rw [hl]
 exact h.obj.same (hk b h.obj.lt (fun e=>n1 e.symm))
theorem enter_any {w:World} {b bm:Nat} {p:Pl} {fv sv:Value} {fb:List (List UInt8)} {sp:List Nat} {gf gs:Option Nat} (h:Mid w b p bm fv sv fb sp gf gs) (hok:p.ok) (i o:Nat) (bs:List UInt8) (hi:i < p.fr.length) (ho:o < 64) (hp:0 < leftN p o):
  Calls Tryz.prog 186 #[bx b,.int .i64 (i:Int),.int .i64 (o:Int)] w fun e w'=>(∃v,e= .returned v)∧Mid w' b {fr:=p.fr.set i (some (o,bs)),left:=p.left.set o (leftN p o - 1)} bm fv sv fb sp gf gs∧Keep (blocks b bm gf gs) w w':=by
 have hmost:=hok.most
 have hown:=h.map
 have hml:=hown.lt
 have c1:w.cell? ⟨b,1,none⟩=some (.map (some bm)):=h.obj.cell 1
 have hz:(mapD (owns p.fr)).put (.int .i64 (i:Int)) (.lit (.int .i64 (o:Int)))=mapD (owns (p.fr.set i (some (o,bs)))):=by
  rw [mapD_put _ _ _ (by rw [owns_len];exact hi),owns_set]
  rfl
 have hkey:=keyZ (a:=(i:Int)) (by omega) (by omega)
 have hval:plainElem (H:=Unit) Tryz.prog 3 (.int .i64 (o:Int))=some (.lit (.int .i64 (o:Int)),[]):=plainElem_int Tryz.underlying3 (wf_i64 (by omega) (by omega))
 have HM:=Lh (fun(w1:World) (hown1:w1.ownsMap Tryz.prog 3 (plainElem Tryz.prog 3) bm (16384+1) ((mapD (owns p.fr)).put (.int .i64 (i:Int)) (.lit (.int .i64 (o:Int))))) (hg1:w.grownBy w1 (some bm))=>
  (show w1.cell? ⟨b,2+o,none⟩=some (.int .i64 (leftN p o:Int))∧w1.frozen? ⟨b,2+o,none⟩=false∧(Mid ((w1.drew).setCell ⟨b,2+o,none⟩ (.int .i64 ((leftN p o - 1:Nat):Int))) b {fr:=p.fr.set i (some (o,bs)),left:=p.left.set o (leftN p o - 1)} bm fv sv fb sp gf gs∧Keep (blocks b bm gf gs) w ((w1.drew).setCell ⟨b,2+o,none⟩ (.int .i64 ((leftN p o - 1:Nat):Int)))) from by
   have h1:=h.turn hg1 (p.fr.set i (some (o,bs))) (by simp) (by
    rw [hz]at hown1
    refine owns_tight hown1 ?_
    rw [mapD_size,owns_used]
    exact Nat.le_trans (used_len _) (by rw [List.length_set];exact hmost))
   obtain⟨n1,n2,n3,n4,n5,n6⟩:=h.ne
   have hc:=h.cl hok ho
   have hkb:=hg1.block b h.obj.lt (fun e=>n1 (Option.some.inj e).symm)
   refine⟨(World.cell?_of_block hkb).trans hc,h1.obj.frozen _,?_,?_⟩
   ·exact Mid.set_left (w:=w1.drew) (show Mid w1.drew b _ bm fv sv fb sp gf gs from⟨h1.obj,h1.map,h1.frm,h1.spr⟩) ⟨n1,n2,n4⟩ hok.l64 o (leftN p o - 1) ho
   ·exact(((Keep.refl w).grown hg1 (fun r e=>by cases e;exact .inr (.inr (.inl rfl)))).drewN 1).set _ (.inl (.inl rfl))))
 have hle:=left_le p hok o
 obtain⟨x,hx⟩:=Nm (leftN p o)
 rw [←hx]at HM hp hle ⊢
 have hw:IntKind.i64.wrap ((x:Int) - 1)=((x - 1:Nat):Int):=by rw [wrapI _ (by omega) (by omega)];omega
 obtain⟨y,hy⟩:=Nm (x - 1)
 rw [←hy]at HM hw ⊢
 have i0:(0:Int)≤(o:Int):=by omega
 have i1:(o:Int) < 64:=by omega
 have mixed:Tryz.prog.follows .mixedOrders=true:=by kernel_rfl
 obtain⟨D,hD⟩:=Nm (mapD (owns p.fr))
 rw [←hD]at hown HM
 clear hD hx hy hz h hok hle hmost hp hi ho hml
 go_enter Tryz.func186,Tryz.ntmps186
 go_wp2_with (at_mapUpdate;refine wpList_mapUpdate_own _ rfl _ _ _ 155 rfl 3 3 law Tryz.underlying155 _ bm 16384 D rfl hown (by decide) _ _ _ rfl rfl hkey _ _ hval ?_;intro w1 hown1 hg1;obtain⟨d1,f1,hfin⟩:=HM.out w1 hown1 hg1;have HF:=Lh hfin;clear hfin hown1 hg1)
 go_region
 go_end0
 exact⟨⟨_,rfl⟩,HF.out⟩
theorem take1_any (go:Nat) (o:Int) (w:World) (ho:w.cell? ⟨go,0,none⟩=some (.int .i64 o)):Calls Tryz.prog 183 #[bx go] w fun e w'=>e= .returned (.bool (ownerB o))∧Below w.heap.size w w':=by
 have h1:=Lh (fun w=>known_any o w)
 obtain⟨q,hq⟩:=Nm (ownerB o)
 rw [←hq]at h1 ⊢
 clear hq
 go_enter Tryz.func183,Tryz.ntmps183
 go_wp2_with fail
 refine(h1.out _).mono ?_
 rintro e w1 ⟨rfl,rfl⟩
 go_wp2
 go_ret
 exact⟨rfl,Br⟩
theorem take2_any {b bm o:Nat} {p:Pl} {fv sv:Value} {fb:List (List UInt8)} {gf gs:Option Nat} {w:World} (h:Rep w b p bm fv sv fb gf gs) (gp go:Nat) (h64:o < 64)
  (hp:w.cell? ⟨gp,0,none⟩=some (bx b)) (ho:w.cell? ⟨go,0,none⟩=some (.int .i64 (o:Int))):
  Calls Tryz.prog 184 #[bx gp,bx go] w fun e w'=>e= .returned (.bool (decide (0 < leftN p o)))∧Below w.heap.size w w':=by
 have hc:=h.cl h64
 have mixed:Tryz.prog.follows .mixedOrders=true:=by kernel_rfl
 obtain⟨x,hx⟩:=Nm (leftN p o)
 rw [←hx]at hc ⊢
 have HD:=Lh (fun n=>below_drewN (Below.refl w.heap.size w) n)
 have i0:(0:Int)≤(o:Int):=by omega
 have i1:(o:Int) < 64:=by omega
 clear hx h
 go_enter Tryz.func184,Tryz.ntmps184
 go_wp2_with fail
 go_quiet (fail)
 go_wp2
 go_ret
 exact⟨rfl,HD.out _⟩
def takeL (v:Value) (s:Nat) (a1 a2 a3:Bool):List Ask:=
 [⟨90,#[v],#[],1,a1⟩,⟨183,#[],#[bx (s+1)],2,a2⟩,⟨184,#[],#[bx s,bx (s+1)],171,a3⟩]
def takeB (v:Value) (o:Int):List (Value × TypeId):= [(v,94),(.int .i64 o,3)]
theorem take_asked {b bm:Nat} {p:Pl} {fv sv:Value} {fb:List (List UInt8)} {gf gs:Option Nat} {w:World} (h:Rep w b p bm fv sv fb gf gs) (o:Int):
  Calls Tryz.prog 76 #[.slice (some ⟨w.heap.size+2,0,none⟩) 3 3] (askW w (takeB (bx b) o) (takeL (bx b) w.heap.size true true true)) fun e w'=>e= .returned (.int .i64 (takeE p o:Int))∧Boxes w [bx b,.int .i64 o] w':=by
 obtain⟨a2,ha2⟩:=Nm (ownerB o)
 obtain⟨a3,ha3⟩:=Nm (decide (0 < leftN p o.toNat))
 have hE:askE (takeL (bx b) w.heap.size true a2 a3)=(takeE p o:Int):=by
  unfold takeE
  have e2:(¬ownerB o=true)↔a2=false:=by rw [ha2];cases ownerB o <;> simp
  have e3:(leftN p o.toNat=0)↔a3=false:=by rw [ha3];simp
  simp only [e2,e3]
  cases a2 <;> cases a3 <;> rfl
 refine(asked_box (takeB (bx b) o) (takeL (bx b) w.heap.size true a2 a3) 3 3 _ rfl rfl (by omega) fun k hk hall=> ?_).mono fun e w' ⟨e1,e2,_⟩=>⟨by rw [e1,hE],e2⟩
 rcases k with _ | _ | _ | k
 ·refine⟨enters_of Tryz.func90 (by kernel_rfl) rfl,fun V hV=> ?_⟩
  exact(there_map b bm V (hV.rep h).c1).mono fun e w' ⟨e1,e2⟩=>⟨e1,e2 ▸ Br⟩
 ·refine⟨enters_of Tryz.func183 (by kernel_rfl) rfl,fun V hV=> ?_⟩
  have:=take1_any (w.heap.size+1) o V (hV.cell 1 _ rfl)
  rw [←ha2]at this
  exact this
 ·have t2:a2=true:=hall 1 (by simp [takeL]) (by omega)
  rw [ha2]at t2
  have tb:=t2
  simp only [ownerB,Bool.and_eq_true,decide_eq_true_eq]at tb
  obtain⟨n,rfl⟩:∃n:Nat,o=n:=⟨o.toNat,by omega⟩
  refine⟨enters_of Tryz.func184 (by kernel_rfl) rfl,fun V hV=> ?_⟩
  have:=take2_any (hV.rep h) w.heap.size (w.heap.size+1) (by omega) (hV.cell 0 _ rfl) (hV.cell 1 _ rfl)
  rw [Int.toNat_natCast]at ha3
  rw [←ha3]at this
  exact this
 ·simp [takeL]at hk
  omega
theorem take_no {b:Nat} {p:Pl} {F:Nat→Prop} {w:World} (h:Has w b p F) (o:Int) (hE:takeE p o≠0):
  Calls Tryz.prog 129 #[bx b,.int .i64 o] w fun e w'=>e= .returned (.tuple #[.int .i64 (takeI p o:Int),.int .i64 (takeE p o:Int)])∧Next w b (takeP p o) F w':=by
 have hN:=Lh (fun w' (hb:Below w.heap.size w w')=>(show Next w b (takeP p o) F w' from by
  unfold takeP
  rw [if_neg hE]
  exact Next.same h hb))
 have hI:takeI p o=0:=by unfold takeI;rw [if_neg hE]
 rw [hI]
 obtain⟨bm,fv,sv,fb,gf,gs,hr,rfl⟩:=h
 have h1:=Lh ((take_asked hr o).mono fun e w' ⟨e1,e2⟩=>(show e=Ending.returned (Value.int .i64 (takeE p o:Int))∧Below w.heap.size w w' from⟨e1,e2.below⟩))
 obtain⟨E,hE2⟩:=Nm (takeE p o)
 rw [←hE2]at h1 hE ⊢
 have e0:(((E:Int)) == 0)=false:=by rw [beq_eq_false_iff_ne];omega
 have e1:¬((E:Int)=0):=by omega
 clear hE2 hr hE hI
 go_enter Tryz.func129,Tryz.ntmps129
 go_wp2_with fail
 refine wp_scope_jump 1 fun R hR hJm=> ?_
 go_wp2_with fail
 refine(h1.out).mono ?_
 rintro e w1 ⟨rfl,hb⟩
 go_wp2_with fail
 refine wp_goto (hJm.out _ _ _ _ _ rfl ?_)
 go_wp2_with fail
 refine hR.out _ _ _ _ (by simp) ?_
 go_ret2
 exact⟨rfl,hN.out _ hb⟩
theorem least_any {b bm:Nat} {p:Pl} {fv sv:Value} {fb:List (List UInt8)} {gf gs:Option Nat} {w:World} (h:Rep w b p bm fv sv fb gf gs) (o:Int) (h0:takeE p o=0):
  ∃fb' sp,(∀V,Rep V b p bm fv sv fb gf gs→Calls Tryz.prog 185 #[bx b] V (LeastP V b p bm gf gs (takeI p o) fb' sp))∧sp=spareOf (takeP p o).fr fb'.length∧fb'.length≤(takeP p o).fr.length∧
   (∀i,fb'.length≤i→frameO (takeP p o) i=none)∧(∀bs∈fb',bs.length=256)∧(∀(i o':Nat) (bs:List UInt8),(takeP p o).fr[i]?=some (some (o',bs))→fb'[i]?=some bs)∧takeI p o < p.fr.length:=by
 obtain⟨ho0,ho1,hlp,hf1,hul⟩:=takeE_left h.ok h0
 have hfr:(takeP p o).fr=p.fr.set (takeI p o) (some (o.toNat,zero256)):=by unfold takeP;rw [if_pos h0]
 have hlt:takeI p o < p.fr.length:=(List.getElem?_eq_some_iff.1 (free1_spec _ _ hf1).1).1
 rcases hs:freeL p.fr fb.length with _ | ⟨i,r⟩
 ·have hn:fb.length < p.fr.length:=by
   rcases Nat.lt_or_ge fb.length p.fr.length with h1 | h1
   ·exact h1
   ·have:=used_all hs (by have:=h.fbl;omega)
    omega
  have hi:takeI p o=fb.length:=by
   have:=least_new_free hs h.behind hn
   rw [hf1]at this
   exact Option.some.inj this
  have hsp:spareOf p.fr fb.length= []:=by rw [spare_eq,hs];rfl
  refine⟨fb ++ [zero256],[],fun V hV=>by rw [hi];exact least_new hV hsp hn,?_,?_,?_,?_,?_,hlt⟩
  ·rw [hfr,hi,spare_eq,List.length_append,List.length_singleton,freeL_take_new hs hn]
   rfl
  ·rw [hfr,List.length_set,List.length_append,List.length_singleton]
   omega
  ·intro j hj
   rw [List.length_append,List.length_singleton]at hj
   unfold frameO
   rw [hfr,hi,List.getElem?_set_ne (by omega)]
   exact h.behind j (by omega)
  ·intro bs hb
   rcases List.mem_append.1 hb with hb | hb
   ·exact h.fbs _ hb
   ·rw [List.mem_singleton.1 hb,zero_len0]
  ·intro j o' bs hj
   rw [hfr,hi,List.getElem?_set]at hj
   split at hj
   next he=>
    subst he
    have hbs:zero256=bs:=by
     rcases Nat.lt_or_ge fb.length p.fr.length with h1 | h1
     ·simp only [Option.some.injEq,Prod.mk.injEq]at hj
      exact hj.2
     ·omega
    rw [←hbs,List.getElem?_append_right Lr,Nat.sub_self]
    rfl
   next he=>
    have h1:=h.same j o' bs hj
    have h2:=(List.getElem?_eq_some_iff.1 h1).1
    rw [List.getElem?_append_left h2]
    exact h1
 ·obtain⟨h1,h2⟩:=least_old_free hs h.fbl
  have hi:takeI p o=i:=by
   rw [hf1]at h2
   exact Option.some.inj h2
  have hsp:spareOf p.fr fb.length=r.reverse ++ [takeI p o]:=by rw [spare_eq,hs,List.reverse_cons,hi]
  rw [hi]at hsp
  refine⟨fb.set i zero256,r.reverse,fun V hV=>by rw [hi];exact least_old hV i _ hsp h1,?_,?_,?_,?_,?_,hlt⟩
  ·rw [hfr,hi,spare_eq,List.length_set,freeL_take_old hs h.fbl]
  ·rw [hfr,List.length_set,List.length_set]
   exact h.fbl
  ·intro j hj
   rw [List.length_set]at hj
   unfold frameO
   rw [hfr,hi,List.getElem?_set_ne (by omega)]
   exact h.behind j hj
  ·intro bs hb
   rcases List.mem_or_eq_of_mem_set hb with hb | hb
   ·exact h.fbs _ hb
   ·rw [hb,zero_len0]
  ·intro j o' bs hj
   rw [hfr,hi,List.getElem?_set]at hj
   split at hj
   next he=>
    subst he
    rw [if_pos (by omega)]at hj
    simp only [Option.some.injEq,Prod.mk.injEq]at hj
    rw [←hj.2,List.getElem?_set_self h1]
   next he=>
    rw [List.getElem?_set_ne he]
    exact h.same j o' bs hj
theorem take_yes {b:Nat} {p:Pl} {F:Nat→Prop} {w:World} (h:Has w b p F) (o:Nat) (hE:takeE p o=0):
  Calls Tryz.prog 129 #[bx b,.int .i64 (o:Int)] w fun e w'=>e= .returned (.tuple #[.int .i64 (takeI p o:Int),.int .i64 0])∧Next w b (takeP p o) F w':=by
 obtain⟨bm,fv,sv,fb,gf,gs,hr,rfl⟩:=h
 obtain⟨ho0,ho1,hlp,hf1,hul⟩:=takeE_left hr.ok hE
 rw [Int.toNat_natCast]at hlp
 obtain⟨fb',sp,hL,q1,q2,q3,q4,q5,q6⟩:=least_any hr o hE
 have hP:takeP p o={fr:=p.fr.set (takeI p o) (some (o,zero256)),left:=p.left.set o (leftN p o - 1)}:=by unfold takeP;rw [if_pos hE];rfl
 have hok:=take_ok hr.ok o
 have hblt:∀k,blocks b bm gf gs k→k < w.heap.size:=hr.lt
 have h1:=Lh ((take_asked hr (o:Int)).mono fun e w' ⟨e1,e2⟩=>(show e=Ending.returned (Value.int .i64 (takeE p o:Int))∧w'.cell? ⟨w.heap.size,0,none⟩=some (bx b)∧w'.cell? ⟨w.heap.size+1,0,none⟩=some (Value.int .i64 (o:Int))∧Boxes w [bx b,.int .i64 (o:Int)] w' from⟨e1,e2.cell 0 _ rfl,e2.cell 1 _ rfl,e2⟩))
 rw [hE]at h1
 have HL:=Lh (fun(w1:World) (hB:Boxes w [bx b,.int .i64 (o:Int)] w1)=>(show Calls Tryz.prog 185 #[bx b] w1 (fun e w2=>e= .returned (.int .i64 (takeI p o:Int))∧(w2.cell? ⟨w.heap.size,0,none⟩=some (bx b)∧w2.cell? ⟨w.heap.size+1,0,none⟩=some (Value.int .i64 (o:Int)))∧
   ∀w2',Below w2.heap.size w2 w2'→Calls Tryz.prog 186 #[bx b,.int .i64 (takeI p o:Int),.int .i64 (o:Int)] w2' (fun e w3=>(∃v,e= .returned v)∧(w3.cell? ⟨w.heap.size,0,none⟩=some (bx b)∧w3.cell? ⟨w.heap.size+1,0,none⟩=some (Value.int .i64 (o:Int)))∧Next w b (takeP p o) (blocks b bm gf gs) w3)) from by
  refine(hL w1 (hB.rep hr)).mono ?_
  rintro e w2 ⟨rfl,fv',sv',gf',gs',hM,hK,hbl⟩
  have hs1:=hB.size
  have b0:=hB.keep hK hblt 0 _ rfl
  have b1:=hB.keep hK hblt 1 _ rfl
  refine⟨rfl,⟨b0,b1⟩,fun w2' hb2=> ?_⟩
  have hM2:Mid w2' b p bm fv' sv' fb' sp gf' gs':=⟨hM.obj.below hb2,owns_same hM.map (hb2.block _ hM.map.lt),hM.frm.keep fun g e=>hb2.block _ (hM.frm.lt g e),hM.spr.keep fun g e=>hb2.block _ (hM.spr.lt g e)⟩
  refine(enter_any hM2 hr.ok (takeI p o) o zero256 q6 (by omega) hlp).mono ?_
  rintro e w3 ⟨hv,hM3,hK3⟩
  have hlt2:w.heap.size+1 < w2.heap.size:=by have:=hK.size;simp only [List.length_cons,List.length_nil]at hs1;omega
  have hnot:∀k,w.heap.size≤k→k < w1.heap.size→¬blocks b bm gf' gs' k:=fun k h1 h2 hk=>by
   rcases hbl k hk with h3 | h3
   ·have:=hblt k h3;omega
   ·omega
  have hs3:w.heap.size+1 < w1.heap.size:=by simp only [List.length_cons,List.length_nil]at hs1;omega
  have g:∀k,k≤1→w3.cell? ⟨w.heap.size+k,0,none⟩=w2.cell? ⟨w.heap.size+k,0,none⟩:=fun k hk=>
   (hK3.cell (p:=⟨w.heap.size+k,0,none⟩) (by have:=hb2.size;show w.heap.size+k < _;omega) (hnot _ (by show w.heap.size≤w.heap.size+k;omega) (by show w.heap.size+k < _;omega))).trans (hb2.cell (p:=⟨w.heap.size+k,0,none⟩) (by show w.heap.size+k < _;omega))
  refine⟨hv,⟨(g 0 (by omega)).trans b0,(g 1 (by omega)).trans b1⟩,blocks b bm gf' gs',⟨bm,fv',sv',fb',gf',gs',?_,rfl⟩,?_,fun k hk=>(hbl k hk).elim .inl fun h3=> .inr (by have:=hB.below.size;omega)⟩
  ·rw [hP]at hok q1 q2 q3 q5 ⊢
   exact⟨hok,by have:=hM3.obj;simpa using this,hM3.map,hM3.frm,by rw [←q1];exact hM3.spr,q2,q3,q4,q5⟩
  ·have k1:Keep (blocks b bm gf gs) w w2:=(Keep.of_below hB.below).trans hK (fun k _ h=>h)
   have k2:Keep (blocks b bm gf gs) w w2':=k1.trans (Keep.of_below (F:=fun _=>False) hb2) (fun k _ h=>h.elim)
   exact k2.trans hK3 (fun k hk hbk=>(hbl k hbk).elim id fun h3=>by have:=hB.below.size;omega)))
 obtain⟨I,hI⟩:=Nm (takeI p o)
 rw [←hI]at HL ⊢
 clear hI hblt hok hP q1 q2 q3 q4 q5 q6 hL hlp hf1 hul ho0 ho1 hr hE
 go_enter Tryz.func129,Tryz.ntmps129
 go_wp2_with fail
 refine wp_scope_jump 1 fun R hR hJm=> ?_
 go_wp2_with fail
 refine(h1.out).mono ?_
 rintro e w1 ⟨rfl,d0,d1,hB⟩
 have h2:=Lh (HL.out w1 hB)
 clear HL hB h1
 go_wp2_with fail
 refine(h2.out).mono ?_
 rintro e w2 ⟨rfl,hd,hen⟩
 have h3:=Lh hen
 have hS0:=Lh hd
 clear hen h2 d0 d1
 have hdr:=Lh (show Below w2.heap.size w2 w2.drew from Br.drew)
 go_wp2_with fail
 go_region_held3 (fun W=>W.cell? ⟨w.heap.size,0,none⟩=some (bx b)∧W.cell? ⟨w.heap.size+1,0,none⟩=some (.int .i64 (o:Int)))
  (first | exact hS0.out | assumption)
  (first | (go_at_call 186;refine(h3.out _ hdr.out).mono ?_;rintro e w3 ⟨⟨v,rfl⟩,hS3,hN⟩))
 go_wp2_with fail
 refine hR.out _ _ _ _ (by simp) ?_
 go_ret2
 exact⟨rfl,hN⟩
end Go.Proofs.YtfcfbcjiijfjgaaGreatDoor
