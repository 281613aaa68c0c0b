/- At every list of values the program's TupleBytes answers the bytes that the specification's does, in memory of its own. It writes into no argument. No condition. -/
import Derived.Test.YtgibeakclknhnaaLawTbW
import Derived.Test.YtgibeakclknhnaaImplTb
namespace Go.Proofs.Ytgibeakclknhnaa

theorem fnExactTupleBytes_holds : Rows.FnExactTupleBytesSaid := fnExactTupleBytes.over fun a n c L w h _ => implTupleBytes_any a n c L w h
end Go.Proofs.Ytgibeakclknhnaa
