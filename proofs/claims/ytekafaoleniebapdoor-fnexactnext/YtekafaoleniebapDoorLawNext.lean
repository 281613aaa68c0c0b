/- The card of the law FnExactNext holds: of every op and every list of pairs the program's Next answers as the specification's does. -/
import Derived.Test.YtekafaoleniebapDoorLawNextW
import Derived.Test.YtekafaoleniebapDoorImplNext
namespace Go.Proofs.YtekafaoleniebapDoor
theorem fnExactNext_holds : Rows.FnExactNextCardSaid := fnExactNext_over implNext_any
#print axioms fnExactNext_holds
end Go.Proofs.YtekafaoleniebapDoor
