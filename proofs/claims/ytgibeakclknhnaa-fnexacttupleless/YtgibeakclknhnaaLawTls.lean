/- At every two lists of values the program's TupleLess answers as the specification's. It writes into no argument. No condition. -/
import Derived.Test.YtgibeakclknhnaaLawTlsW
import Derived.Test.YtgibeakclknhnaaImplTls
namespace Go.Proofs.Ytgibeakclknhnaa

theorem fnExactTupleLess_holds : Rows.FnExactTupleLessSaid := fnExactTupleLess.over fun a b n c n' c' L M w h _ h' _ => implTupleLess_any a b n n' c c' L M w h h'
end Go.Proofs.Ytgibeakclknhnaa
