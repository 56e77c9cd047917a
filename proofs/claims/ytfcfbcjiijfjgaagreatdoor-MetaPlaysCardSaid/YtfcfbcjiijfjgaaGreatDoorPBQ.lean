import Derived.Test.YtfcfbcjiijfjgaaGreatDoorPBN
import Derived.Test.YtfcfbcjiijfjgaaGreatDoorPBP
namespace Go.Proofs.YtfcfbcjiijfjgaaGreatDoor.Me
open Go.RowKit Go.Shelf
theorem mapi:MApi Tabs (HasM Vm.X0):={mbase with
 statesYes:=fun s c hT h hs hc hf hg=>statesM_yes s c hT h hs hc hf hg
 statesNo:=fun s c hT h hE=>statesM_no s c hT h hE}
theorem napi:NApi Tabs where
 tb:=Tabs.below
 get:=fun w hT=>m_nget 0 0 0 hT
 gget:=fun w _=>m_nGget 0 0
 states:=fun w hT=>statesM_nil w hT
 openN:=fun w _=>open_nil 0 0 w
 closeN:=fun w _=>close_nil 0 w
 put:=fun w hT=>m_nput 0 0 0 0 0 0 (by omega) hT
 gput:=fun w _=>m_nGput 0 0 0 0 0 0
end Go.Proofs.YtfcfbcjiijfjgaaGreatDoor.Me
