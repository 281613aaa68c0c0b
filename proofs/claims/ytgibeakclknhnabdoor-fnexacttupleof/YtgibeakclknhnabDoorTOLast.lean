/- FnExactTupleOf: of every list of bytes the program's TupleOf answers as the specification's: the tuple whose bytes they are, and true; nothing and false of all others. It writes into no argument. The library's variable errors.errorType is as its text lays it. -/
import Derived.Test.YtgibeakclknhnabDoorTO06
import Derived.Test.YtgibeakclknhnabDoorTO08
namespace Go.Proofs.YtgibeakclknhnabDoor

theorem fnExactTupleOf_holds : Rows.FnExactTupleOfCardSaid := fnExactTupleOf_over fun a n c l w hT h hc => implTupleOf_any a n c l w hT h hc
#print axioms fnExactTupleOf_holds
end Go.Proofs.YtgibeakclknhnabDoor
