/- At every schema the program's SchemaOk answers as the specification's. It writes into no argument. No condition. -/
import Derived.Test.YtmgofehafjogfaaLawScW
import Derived.Test.YtmgofehafjogfaaImplSm
namespace Go.Proofs.Ytmgofehafjogfaa

theorem fnExactSchemaOk_holds : Rows.FnExactSchemaOkSaid := fnExactSchemaOk.over fun a1 n1 c1 a2 n2 c2 a3 n3 c3 S w h hz => implSchemaOk_any a1 n1 c1 a2 n2 c2 a3 n3 c3 S w h hz
end Go.Proofs.Ytmgofehafjogfaa
