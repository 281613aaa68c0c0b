/- At every value the program's ValueOk answers as the specification's. It writes into no argument. No condition. -/
import Derived.Test.YtnjgeokjlfghcaaLawVoW
import Derived.Test.YtnjgeokjlfghcaaImplVo
namespace Go.Proofs.Ytnjgeokjlfghcaa

theorem fnExactValueOk_holds : Rows.FnExactValueOkSaid := fnExactValueOk.over implValueOk_any
end Go.Proofs.Ytnjgeokjlfghcaa
