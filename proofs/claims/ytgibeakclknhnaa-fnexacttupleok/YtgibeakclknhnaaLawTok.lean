/- At every list of values the program's TupleOk answers as the specification's. It writes into no argument. No condition. -/
import Derived.Test.YtgibeakclknhnaaLawTokW
import Derived.Test.YtgibeakclknhnaaImplTok
namespace Go.Proofs.Ytgibeakclknhnaa

theorem fnExactTupleOk_holds : Rows.FnExactTupleOkSaid := fnExactTupleOk.over fun a n c L w h _ => implTupleOk_any a n c L w h
end Go.Proofs.Ytgibeakclknhnaa
