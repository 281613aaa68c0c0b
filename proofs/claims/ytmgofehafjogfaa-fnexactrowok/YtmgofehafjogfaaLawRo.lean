/- At every schema and every list of values the program's RowOk answers as the specification's. It writes into no argument. No condition. -/
import Derived.Test.YtmgofehafjogfaaLawRoW
import Derived.Test.YtmgofehafjogfaaImplRw
namespace Go.Proofs.Ytmgofehafjogfaa

theorem fnExactRowOk_holds : Rows.FnExactRowOkSaid := fnExactRowOk.over fun a1 n1 c1 a2 n2 c2 a3 n3 c3 S a n c L w h hz hv hc => implRowOk_any a1 n1 c1 a2 n2 c2 a3 n3 c3 S a n c L w h hz hv hc
end Go.Proofs.Ytmgofehafjogfaa
