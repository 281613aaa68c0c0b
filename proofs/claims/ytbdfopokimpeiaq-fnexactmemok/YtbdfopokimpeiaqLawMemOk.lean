/- The law FnExactMemOk: at every Mem the program's MemOk answers as the specification's does, and writes into nothing that it was handed; no conditions. -/
import Derived.Test.YtbdfopokimpeiaqLawMemOkW
import Derived.Test.YtbdfopokimpeiaqImplMem
namespace Go.Proofs.Ytbdfopokimpeiaq

theorem fnExactMemOk_holds : Rows.FnExactMemOkSaid := fnExactMemOk.over fun wa m fs da n ds w h1 h2 h3 => implMemOk_any wa m m fs da n n ds w h1 h2 h3
end Go.Proofs.Ytbdfopokimpeiaq
