/- The statement of the law FnExactAllowed holds: of all rows, ops and results the program's Allowed answers as the specification's does. -/
import Derived.Test.YtlnhmmpmnflagaoLawAllowedW
import Derived.Test.YtlnhmmpmnflagaoImplAllow
namespace Go.Proofs.Ytlnhmmpmnflagao
theorem fnExactAllowed_holds : Rows.FnExactAllowedSaid := fnExactAllowed.over (fun p1 _ n1 n2 st kind k v code xs ys w h1 h2 h3 _ _ _ _ => implAllowed_any p1 0 n1 n2 n2 _ st kind k v code xs ys w h1 h2 h3)
#print axioms fnExactAllowed_holds
end Go.Proofs.Ytlnhmmpmnflagao
