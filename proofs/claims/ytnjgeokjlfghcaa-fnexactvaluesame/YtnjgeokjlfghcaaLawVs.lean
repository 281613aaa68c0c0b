/- At every two values the program's ValueSame answers as the specification's. It writes into no argument. No condition. -/
import Derived.Test.YtnjgeokjlfghcaaLawVsW
import Derived.Test.YtnjgeokjlfghcaaImplVs
namespace Go.Proofs.Ytnjgeokjlfghcaa

theorem fnExactValueSame_holds : Rows.FnExactValueSameSaid := fnExactValueSame.over implValueSame_any
end Go.Proofs.Ytnjgeokjlfghcaa
