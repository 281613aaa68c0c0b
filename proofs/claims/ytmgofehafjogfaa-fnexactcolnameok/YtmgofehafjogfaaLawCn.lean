/- At every text the program's ColNameOk answers as the specification's. It writes into no argument. No condition. -/
import Derived.Test.YtmgofehafjogfaaLawCnW
import Derived.Test.YtmgofehafjogfaaImplCn
namespace Go.Proofs.Ytmgofehafjogfaa

theorem fnExactColNameOk_holds : Rows.FnExactColNameOkSaid := fnExactColNameOk.over fun s w hs => implColNameOk_any s w hs
end Go.Proofs.Ytmgofehafjogfaa
