/- FnValues: at every text of bytes the law says yes: what it draws of values the program's ValueOk, ValueLess, ValueSame and ValueText answer as the specification's; the program's table of powers of ten is as the library's text lays it. -/
import Derived.Test.YtnjgeokjlfghcaaDoorLawVals
import Derived.Test.YtnjgeokjlfghcaaDoorImplVl
import Derived.Test.YtnjgeokjlfghcaaDoorImplVs
import Derived.Test.YtnjgeokjlfghcaaDoorImplVx
namespace Go.Proofs.YtnjgeokjlfghcaaDoor
open Go.ChangeShapes Go.WideShapes Go.ChangeAt Go.RowKit

theorem fnValues_holds : Rows.FnValuesCardSaid := fnValues_over implValueOk_any implValueLess_any implValueSame_any implValueText_any
#print axioms fnValues_holds
end Go.Proofs.YtnjgeokjlfghcaaDoor
