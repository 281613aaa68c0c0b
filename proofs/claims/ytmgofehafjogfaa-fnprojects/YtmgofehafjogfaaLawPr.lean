/- At every drawn row and places: what the program's Project answers is the specification's, and of two lists of places it is that of the one behind that of the other. No condition. -/
import Derived.Test.YtmgofehafjogfaaLawPrj
import Derived.Test.YtmgofehafjogfaaImplPj
namespace Go.Proofs.Ytmgofehafjogfaa

theorem fnProjects_holds : Rows.FnProjectsSaid := fnProjects.over fun a n c L b m d xs w h hc hz hx hd hm => implProject_any a n c L b m d xs w h hc hz hx hd hm
end Go.Proofs.Ytmgofehafjogfaa
