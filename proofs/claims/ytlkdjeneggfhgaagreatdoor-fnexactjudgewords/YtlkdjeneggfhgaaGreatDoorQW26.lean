/- Texts joined: ImplCom4, ImplCom5. -/
import Derived.Test.YtlkdjeneggfhgaaGreatDoorQW25
import Derived.Test.YtlkdjeneggfhgaaGreatDoorQW23
import Derived.Test.YtlkdjeneggfhgaaGreatDoorQW06
import Derived.Deep.RegionHeld3
set_option maxHeartbeats 200000
set_option maxRecDepth 100000
namespace Go.Proofs.YtlkdjeneggfhgaaGreatDoor
section
open Go.ChangeShapes Go.WideShapes Go.ChangeAt Go.RowKit Go.Maps


end
end Go.Proofs.YtlkdjeneggfhgaaGreatDoor
