/- At every list of bytes that the law draws from, the bytes of the tuples that it draws stand in order just as the tuples do: the law says yes. It writes into no argument. No condition. -/
import Derived.Test.YtgibeakclknhnaaTR04
import Derived.Test.YtgibeakclknhnaaTR05
namespace Go.Proofs.Ytgibeakclknhnaa

theorem fnTupleOrder_holds : Rows.FnTupleOrderSaid :=
  fnTupleOrder.over (fun a n c L w h _ => implTupleOk_any a n c L w h) (fun a b n c n' c' L M w h _ h' _ => implTupleLess_any a b n n' c c' L M w h h') (fun a n c L w h _ => implTupleBytes_any a n c L w h)
end Go.Proofs.Ytgibeakclknhnaa
