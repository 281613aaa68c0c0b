/- FnTuples: at every list of bytes that the law draws from, what it draws of tuples is read from its bytes as it was, and shown as the specification shows it: the law says yes. It writes into no argument. The library's tables and errors.errorType are as their text lays them. -/
import Derived.Test.YtgibeakclknhnaaDoorTU09
import Derived.Test.YtgibeakclknhnaaDoorTU12
import Derived.Test.YtgibeakclknhnaaDoorTU13
namespace Go.Proofs.YtgibeakclknhnaaDoor

theorem fnTuples_holds : Rows.FnTuplesCardSaid :=
  fnTuples_over (fun a n c L w h _ => implTupleOk_any a n c L w h) (fun a n c L w h _ => implTupleBytes_any a n c L w h) (fun a n c l w hT h hc => implTupleOf_any a n c l w hT h hc) (fun a n c L w hT h _ => implTupleText_any a n c L w hT h)
#print axioms fnTuples_holds
end Go.Proofs.YtgibeakclknhnaaDoor
