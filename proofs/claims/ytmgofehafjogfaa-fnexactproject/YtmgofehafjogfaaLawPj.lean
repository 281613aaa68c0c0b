/- At all values and places the program's Project answers as the specification's. It writes into no argument and answers nothing of what came in. No condition. -/
import Derived.Test.YtmgofehafjogfaaLawPjW
import Derived.Test.YtmgofehafjogfaaImplPj
namespace Go.Proofs.Ytmgofehafjogfaa

theorem fnExactProject_holds : Rows.FnExactProjectSaid := fnExactProject.over fun a n c L b m d xs w h hc hz hx hd hm => implProject_any a n c L b m d xs w h hc hz hx hd hm
end Go.Proofs.Ytmgofehafjogfaa
