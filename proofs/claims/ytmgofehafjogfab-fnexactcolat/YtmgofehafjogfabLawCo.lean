/- At every schema and every name the program's ColAt answers as the specification's. It writes into no argument. No condition. -/
import Derived.Test.YtmgofehafjogfabLawCoW
import Derived.Test.YtmgofehafjogfabImplCo
namespace Go.Proofs.Ytmgofehafjogfab

theorem fnExactColAt_holds : Rows.FnExactColAtSaid := fnExactColAt.over fun a1 n1 c1 a2 n2 c2 a3 n3 c3 S t w h hz ht => implColAt_any a1 n1 c1 a2 n2 c2 a3 n3 c3 S t w h hz ht
end Go.Proofs.Ytmgofehafjogfab
