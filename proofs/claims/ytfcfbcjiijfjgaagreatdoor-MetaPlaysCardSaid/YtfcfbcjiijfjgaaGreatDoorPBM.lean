import Derived.Test.YtfcfbcjiijfjgaaGreatDoorPBE
import Derived.Test.YtfcfbcjiijfjgaaGreatDoorPBL
namespace Go.Proofs.YtfcfbcjiijfjgaaGreatDoor.Me
open Go.RowKit Go.Shelf
theorem mbase:MBase Tabs (HasM Vm.X0) where
 tb:=Tabs.below
 keep:=HasM.keep
 lt:=HasM.lt
 ptr:=HasM.ptr
 atYes:=at_yes
 atNo:=at_no
 find:=fun a w hT ha=>find_any a w hT ha
 new1:=fun w _=>m_new1 w
 mem:=fun w _=>m_mem w
 openYes:=fun s _ h hE=>open_yes h s hE
 openNo:=fun s _ h hE=>open_no h s hE
 closeYes:=fun s _ h hE=>close_yes h s hE
 closeNo:=fun s _ h hE=>close_no h s hE
 getYes:=fun s c i hT h hok hf hr=>m_getYes s c i hT h hok hf hr
 getNo:=fun s c i hT h hE=>m_getNo s c i hT h hE
 putYes:=fun s c i st sz no hT h hok h4 h6 h7 hf=>m_putYes s c i st sz no hT h hok h4 h6 h7 hf
 putNo:=fun s c i st sz no hT h hno hE=>m_putNo s c i st sz no hT h hno hE
 ggetYes:=fun s i hT h hs hi hf hr=>m_ggetYes s i hT h hs hi hf hr
 ggetNo:=fun s i _ h hE=>m_ggetNo s i h hE
 gputYes:=fun s i st pg sz fi hT h hs hi hg hf=>m_gputYes s i st pg sz fi hT h hs hi hg hf
 gputNo:=fun s i st pg sz fi _ h hE=>m_gputNo s i st pg sz fi h hE
end Go.Proofs.YtfcfbcjiijfjgaaGreatDoor.Me
