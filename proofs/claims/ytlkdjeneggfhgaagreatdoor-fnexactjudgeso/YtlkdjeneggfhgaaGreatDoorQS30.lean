/- Texts joined: ImplCom4. -/
import Derived.Test.YtlkdjeneggfhgaaGreatDoorQS28
import Derived.Test.YtlkdjeneggfhgaaGreatDoorQS26
import Derived.Test.YtlkdjeneggfhgaaGreatDoorQS07
import Derived.Deep.RegionHeld3
set_option maxHeartbeats 200000
set_option maxRecDepth 100000
namespace Go.Proofs.YtlkdjeneggfhgaaGreatDoor
section
open Go.ChangeShapes Go.WideShapes Go.ChangeAt Go.RowKit Go.Maps

end
end Go.Proofs.YtlkdjeneggfhgaaGreatDoor
