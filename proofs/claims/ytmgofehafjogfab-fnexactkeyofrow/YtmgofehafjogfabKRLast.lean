/- At every schema and every list of values the program's KeyOfRow answers as the specification's. It writes into no argument and answers nothing of what came in. No condition. -/
import Derived.Test.YtmgofehafjogfabKR08
namespace Go.Proofs.Ytmgofehafjogfab

theorem fnExactKeyOfRow_holds : Rows.FnExactKeyOfRowSaid := fnExactKeyOfRow.over fun a1 n1 c1 a2 n2 c2 a3 n3 c3 S a n c L w h hz hv hc hs => implKeyOfRow_any a1 n1 c1 a2 n2 c2 a3 n3 c3 S a n c L w h hz hv hc hs
end Go.Proofs.Ytmgofehafjogfab
