/- The statement of the law FnExactResSame holds: of every two results the program's ResSame answers as the specification's does. -/
import Derived.Test.YtlnhmmpmnflagaoLawResSameW
import Derived.Test.YtlnhmmpmnflagaoImplRes
namespace Go.Proofs.Ytlnhmmpmnflagao
theorem fnExactResSame_holds : Rows.FnExactResSameSaid := fnExactResSame.over (fun _ _ n1 n2 k1 k2 xs ys w h1 h2 _ _ => implResSame_any _ _ n1 n2 _ _ k1 k2 xs ys w h1 h2)
#print axioms fnExactResSame_holds
end Go.Proofs.Ytlnhmmpmnflagao
