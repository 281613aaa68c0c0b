/- FnExactValueText: of every value the program's ValueText answers as the specification's, at every argument, and writes nothing that was there; the program's table of powers of ten is as the library's text lays it. -/
import Derived.Test.YtnjgeokjlfghcaaDoorLawVtW
import Derived.Test.YtnjgeokjlfghcaaDoorImplVx
namespace Go.Proofs.YtnjgeokjlfghcaaDoor
open Go.ChangeShapes Go.WideShapes Go.ChangeAt Go.RowKit

theorem fnExactValueText_holds : Rows.FnExactValueTextCardSaid := fnExactValueText_over implValueText_any
#print axioms fnExactValueText_holds
end Go.Proofs.YtnjgeokjlfghcaaDoor
