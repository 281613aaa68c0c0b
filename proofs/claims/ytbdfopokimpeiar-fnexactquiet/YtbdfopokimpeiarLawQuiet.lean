/- The law FnExactQuiet: at every Mem the program's Quiet answers as the specification's does, and writes into nothing that it was handed; no conditions. -/
import Derived.Test.YtbdfopokimpeiarLawQuietW
import Derived.Test.YtbdfopokimpeiarImplQuiet
namespace Go.Proofs.Ytbdfopokimpeiar

theorem fnExactQuiet_holds : Rows.FnExactQuietSaid := fnExactQuiet.over fun wa m fs da n ds w h1 h2 h3 => implQuiet_any wa m m fs da n n ds w h1 h2 h3
end Go.Proofs.Ytbdfopokimpeiar
