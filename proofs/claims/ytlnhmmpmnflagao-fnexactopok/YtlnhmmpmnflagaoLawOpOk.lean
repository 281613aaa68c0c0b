/- The statement of the law FnExactOpOk holds: of every op the program's OpOk answers as the specification's does. -/
import Derived.Test.YtlnhmmpmnflagaoLawOpOkW
import Derived.Test.YtlnhmmpmnflagaoImplOp
namespace Go.Proofs.Ytlnhmmpmnflagao
theorem fnExactOpOk_holds : Rows.FnExactOpOkSaid := fnExactOpOk.over (implOpOk_any)
#print axioms fnExactOpOk_holds
end Go.Proofs.Ytlnhmmpmnflagao
