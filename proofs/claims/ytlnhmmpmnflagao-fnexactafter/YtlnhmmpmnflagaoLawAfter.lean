/- The statement of the law FnExactAfter holds: of all rows, ops and results the program's After answers as the specification's does. -/
import Derived.Test.YtlnhmmpmnflagaoLawAfterW
import Derived.Test.YtlnhmmpmnflagaoImplAfter
namespace Go.Proofs.Ytlnhmmpmnflagao
theorem fnExactAfter_holds : Rows.FnExactAfterSaid := fnExactAfter.over (fun p1 _ n1 n2 st kind k v code xs ys w h1 h2 h3 _ _ _ _ => implAfter_any _ p1 0 n1 n2 n2 st kind k v code xs ys w h1 h2 h3)
#print axioms fnExactAfter_holds
end Go.Proofs.Ytlnhmmpmnflagao
