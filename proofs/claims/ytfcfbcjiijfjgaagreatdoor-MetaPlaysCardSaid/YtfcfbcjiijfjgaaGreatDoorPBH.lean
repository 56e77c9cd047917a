import Derived.Test.YtfcfbcjiijfjgaaGreatDoorPBG
import Derived.Test.YtfcfbcjiijfjgaaGreatDoorPAX
import Derived.Deep.RegionHeld3
namespace Go.Proofs.YtfcfbcjiijfjgaaGreatDoor.Sh
open Go.RowKit Go.Shelf
attribute [local go_sem] Oper.semAt_some
def zs (n:Nat):Ls:=List.replicate n 0
theorem zs_len (n:Nat):(zs n).length=n:=List.length_replicate
theorem zs_sts (n:Nat):Sts (zs n):=fun z hz=>by rw [List.eq_of_mem_replicate hz];omega
end Go.Proofs.YtfcfbcjiijfjgaaGreatDoor.Sh
