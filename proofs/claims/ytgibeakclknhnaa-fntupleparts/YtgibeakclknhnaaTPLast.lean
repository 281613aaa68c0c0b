/- At every list of bytes that the law draws from, the bytes of the tuple that it draws are those of its parts: the law says yes. It writes into no argument. No condition. -/
import Derived.Test.YtgibeakclknhnaaTP04
import Derived.Test.YtgibeakclknhnaaTP05
import Derived.Test.YtgibeakclknhnaaTP06
namespace Go.Proofs.Ytgibeakclknhnaa

theorem fnTupleParts_holds : Rows.FnTuplePartsSaid :=
  fnTupleParts.over (fun a n c L w h _ => implTupleOk_any a n c L w h) (fun a b n c n' c' L M w h _ h' _ => implTupleLess_any a b n n' c c' L M w h h') (fun a n c L w h _ => implTupleBytes_any a n c L w h)
end Go.Proofs.Ytgibeakclknhnaa
