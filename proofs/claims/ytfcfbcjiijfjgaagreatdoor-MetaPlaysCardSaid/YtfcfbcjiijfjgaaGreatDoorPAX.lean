import Derived.Test.YtfcfbcjiijfjgaaGreatDoorPAA
import Derived.Laws.MakeOwn
import Derived.Laws.Entries
namespace Go.Proofs.YtfcfbcjiijfjgaaGreatDoor
open Go.RowKit
theorem made_one {z:Value} (hz:z.cells= #[z]) (c:Nat):madeCells z.cells c=(List.replicate c z).toArray:=by
 apply Array.ext
 ·rw [size_madeCells];simp
 ·intro i h1 h2
  simp [madeCells,hz,Nat.mod_one]
theorem make_one {P:Program} {t e:TypeId} {i:TypeInfo} {z:Value} (ht:P.underlying t=some (.slice e)) (hi:P.info? e=some i) (hz:i.zero=some z) (hs:i.size=1) (hc:z.cells= #[z])
  (n c:Nat) (hnc:n≤c) (hby:i.bytes*c≤281474976710656) (h63:c≤9223372036854775807) (w:World):
  (Instr.makeSlice t (.int .i64 (n:Int)) (.int .i64 (c:Int))).run P w= .ok (.slice (some ⟨w.heap.size,0,none⟩) n c) (w.alloc (.cells (List.replicate c z).toArray e)):=by
 have hl:(i.bytes:Int)*(c:Int)≤281474976710656:=by rw [←Int.natCast_mul];omega
 have hm:=run_make (P:=P) w t e i z ht hi hz .i64 .i64 n c (by omega) (by omega) hl (by omega)
 rw [Int.toNat_natCast,Int.toNat_natCast,hs,Nat.mul_one,made_one hc]at hm
 exact hm
end Go.Proofs.YtfcfbcjiijfjgaaGreatDoor
