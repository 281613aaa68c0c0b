/- Texts joined: ImplCom2, ImplCom3. -/
import Derived.Test.YtbfolanfbagofaaGreatDoorQA23
import Derived.Test.YtbfolanfbagofaaGreatDoorQA21
import Derived.Test.YtbfolanfbagofaaGreatDoorQA05
import Derived.Deep.RegionHeld3
set_option maxHeartbeats 200000
set_option maxRecDepth 100000
namespace Go.Proofs.YtbfolanfbagofaaGreatDoor
section
open Go.ChangeShapes Go.WideShapes Go.ChangeAt Go.RowKit Go.Maps


end
end Go.Proofs.YtbfolanfbagofaaGreatDoor
