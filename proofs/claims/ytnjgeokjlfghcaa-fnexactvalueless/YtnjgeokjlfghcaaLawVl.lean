/- At every two values the program's ValueLess answers as the specification's. It writes into no argument. No condition. -/
import Derived.Test.YtnjgeokjlfghcaaLawVlW
import Derived.Test.YtnjgeokjlfghcaaImplVl
namespace Go.Proofs.Ytnjgeokjlfghcaa

theorem fnExactValueLess_holds : Rows.FnExactValueLessSaid := fnExactValueLess.over implValueLess_any
end Go.Proofs.Ytnjgeokjlfghcaa
