import Derived.Test.YtfcfbcjiijfjgaaGreatDoorPAA
import Derived.Laws.Externs
namespace Go.Proofs.YtfcfbcjiijfjgaaGreatDoor
open Go.RowKit
def str (l:List UInt8):ByteArray:=⟨l.toArray⟩
theorem run_conv_sees {P:Program} (w:World) {src dst e:TypeId} (hs:P.underlying src=some (.slice e)) (he:P.underlying e=some (.int .u8)) (hd:P.underlying dst=some .string)
  {B n c:Nat} {A:Option Addr} {l:List UInt8} (hl:l.length=n) (hr:Sees w B A (byt l)):
  (convert src dst (.slice A n c)).run P w= .ok (.string (str l)) w:=by
 subst hl
 rw [run_convert_bytes_string w src dst e _ _ c hs he hd]
 rcases A with _ | ad
 ·rcases l with _ | ⟨b,l⟩
  ·simp [Conv.bytesToString,str]
   rfl
  ·obtain⟨ad,h,_⟩:=hr (by simp [byt])
   cases h
 ·have hload:(loadCells ad l.length).run P w= .ok ((l.map fun b=>(b.toNat:Int)).map (Value.int .u8)).toArray w:=by
   have:=run_loadCells_list (P:=P) w ad (byt l) (fun j v hj=>by
    obtain⟨ad',h,_,hc⟩:=hr (by intro h0;rw [h0]at hj;simp at hj)
    injection h with h
    subst h
    exact hc j v hj)
   simpa [byt,Function.comp_def] using this
  rw [run_bytesToString w ad _ c _ hload,foldl_push_bytes]
  simp [str,ByteArray.empty,ByteArray.emptyWithCapacity,Function.comp_def]
  rfl
end Go.Proofs.YtfcfbcjiijfjgaaGreatDoor
